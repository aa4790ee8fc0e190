/-
  Parts of the proof: DSTo.
-/
import Derived.Test.YtgaadpkefncnmaaGreatDoorMp1
/-
  The laws' helpers 'to' over structs and their rows.
-/
namespace Go.Proofs.YtgaadpkefncnmaaGreatDoor
open Go.RowKit
set_option linter.unusedVariables false
set_option linter.unusedSimpArgs false
set_option maxRecDepth 20000 in
set_option maxHeartbeats 1600000 in
theorem dtoRaw (l:List Int):ToC Tryz.prog 25 (raw l):=by
 intro v F w h hb
 have hl:l.length≤1048576:=by
  rw [raw,Cel.bulk] at hb
  omega
 refine (toBytes l v w h.rd.1 (by omega)).mono ?_
 rintro e w' ⟨v',rfl,ho,hbel⟩
 refine ⟨v',blk v',rfl,ho.rd.lie,?_,hbel⟩
 obtain ⟨h1,h2,h3⟩:=ho
 rcases h1.2 with ⟨rfl,_⟩ | ⟨g,cap,cur,rfl,hbg,hg,_⟩
 ·exact Fresh.nil _ _
 ·generalize (bs l).length=N at *
  rcases Nat.eq_zero_or_pos N with rfl | hp
  ·rw [blk_none]; exact Fresh.nil _ _
  ·rw [blk_some hp]
   exact ⟨by simp,fun x hx=>by rw [List.mem_singleton.1 hx]; exact hbg,fun x hx=>by rw [List.mem_singleton.1 hx]; exact LiveAt.of hg⟩
theorem infoNames0:(Tryz.prog.info? 39).map (fun i=>(i.zero,i.size,i.bytes))=some (some (.slice none 0 0),1,24):=by kernel_rfl
set_option maxRecDepth 20000 in
set_option maxHeartbeats 1600000 in
theorem dtoNames0 (l:List (List Int)) (he:∀ x∈l,ToC Tryz.prog 25 (raw x)):ToC Tryz.prog 62 (seqOf 1 (fun n=>[raw n]) l):=by
 unfold seqOf
 intro v F w h hbk
 obtain ⟨i0,hi0,hz0,hz1,hz2⟩:=info_parts infoNames0
 obtain ⟨A,c,hv,hc1,hc2,hrd⟩:=h.read
 obtain ⟨N,hN⟩:∃ N,l.length=N:=⟨_,rfl⟩
 obtain ⟨g,hg⟩:∃ g:(List Int)→List Cel,(fun n=>[raw n])=g:=⟨_,rfl⟩
 have hgn:∀ x,(g x).length=1:=fun x=>by subst hg; rfl
 have hgx:∀ x,g x = [raw x]:=fun x=>by subst hg; rfl
 rw [hg] at hrd hbk ⊢
 rw [Cel.bulk] at hbk
 rw [hN] at hv hc1 hrd hbk ⊢
 unfold maxLen at hc2
 have hel:∀ x∈l,bulks (g x)≤1048576:=fun x hx=>by
  have h1:bulks (g x)≤bulks (cells g l):=by
   clear hrd he hbk hN h
   induction l with
   | nil=>cases hx
   | cons y l ih =>
     rw [cells,bulks_app]
     rcases List.mem_cons.1 hx with rfl | hx
     ·omega
     ·have:=ih hx; omega
  omega
 have hn20:N≤1048576:=by omega
 have HN:=hide hN
 have HRD:=hide hrd
 have HE:=hide he
 have HGN:=hide hgn
 have HEL:=hide hel
 have HGX:=hide hgx
 subst hv
 clear hN hrd he hgn hel hg h hbk hgx
 go_enter Tryz.func62,Tryz.ntmps62
 go_wp2_with (at_make; refine wpList_make_full _ rfl _ _ 23 rfl w.heap.size 39 i0 _ 1 Tryz.underlying23 hi0 hz0 hz1 .i64 .i64 _ _ N rfl rfl rfl rfl (by rw [hz2]; omega) (by simp only [maxLen]; omega) (Nat.le_refl _) ?_; intro w1 own1 gr1)
 have hb1:Below w.heap.size w w1:=(Below.refl _ _).grown gr1 (Nat.le_refl _) (fun _ h=>by cases h)
 obtain ⟨bx1,bl1⟩:=box_of_own own1
 have CP0:=hide (CopyP.start bx1 bl1 hb1 (Nat.le_refl _))
 clear own1 gr1 hb1 bx1 bl1 hi0 hz0 hz1 hz2
 go_loopw [4] (fun i wr=>∃ (j:Nat) (us:List Value) (F2:List Nat),j≤N∧i=.int .i64 j∧Hid (CopyP w w.heap.size 39 (N * 1) (cells g (l.take j)) us F2 wr)) (fun i _=>N - (intOf i).toNat)
 case atStart=>exact ⟨0,[],[],Nat.zero_le _,rfl,CP0⟩
 case round =>
  clear CP0
  obtain ⟨j,us,F2,hj,rfl,HR⟩:=hrel
  by_cases hlt:j < N
  ·obtain ⟨b,off,us0,G,rfl,P⟩:=HRD.out (by omega)
   have hjn:j < l.length:=by rw [HN.out]; exact hlt
   have hln:(cells g (l.take j)).length=j * 1:=by rw [cells_len (sz:=1) HGN.out,List.length_take,HN.out]; congr 1; omega
   have hmem:l[j]∈l:=List.getElem_mem hjn
   have htk:=cells_take g hjn
   rw [cells_split g l j,cells_drop g hjn] at P
   generalize l[j]=x at *
   rw [HGX.out x] at P htk
   simp only [List.cons_append,List.nil_append] at P
   obtain ⟨y1,G1,c1,l1⟩:=(P.step HR.out.below).cell hln.symm
   rw [Nat.mul_one] at c1
   have hcall:=HE.out x hmem y1 G1 wr l1 (by have:=HEL.out x hmem; rw [HGX.out x] at this; simp only [bulks,Nat.add_zero] at this; omega)
   have HCALL:=hide hcall
   have HTK:=hide htk
   have HLN:=hide hln
   have hgx1:(g x).length=1:=HGN.out x
   have HGX1:=hide hgx1
   have htot:j * 1 + 1≤N * 1:=by
    have:(j + 1) * 1≤N * 1:=Nat.mul_le_mul_right _ hlt
    omega
   have k0:(0:Int)≤(j:Int):=by omega
   have k1:(j:Int) < (N:Int):=by omega
   clear P l1 hmem hjn htk hln hcall hgx1
   go_wp2_with fail
   refine HCALL.out.mono ?_
   rintro e w2 ⟨v2,J,rfl,l2,f2,b2⟩
   obtain ⟨X,y,z,rfl⟩:∃ X y z,v2=.slice X y z:=by obtain ⟨X,z,e,_,_⟩:=l2.form; exact ⟨_,_,_,e⟩
   obtain ⟨th,cp⟩:=HR.out.put b2 (lies_one l2) f2 (p:=j) (by rw [HLN.out,Nat.mul_one]) (by rw [HLN.out]; simp only [List.length_cons,List.length_nil]; omega)
   have th0:=(th 0 (by simp)).1
   have th1:=(th 0 (by simp)).2
   rw [Nat.add_zero] at th0 th1
   obtain ⟨old,hold⟩:=Option.isSome_iff_exists.1 th0
   rw [← HTK.out] at cp
   have CP:=hide cp
   clear th th0 cp l2 f2 b2 HCALL c1
   go_wp2_with fail
   go_roundw
   case rel=>exact ⟨j + 1,_,_,by omega,by go_num,CP⟩
   case measure=>simp [intOf]; omega
  ·obtain rfl:j=N:=by omega
   have hcp:=HR.out
   rw [List.take_of_length_le (by rw [HN.out]; omega)] at hcp
   obtain ⟨F',s1,s2,s3⟩:=hcp.stop (by rw [cells_len (sz:=1) HGN.out,HN.out]) (by decide) (by simp only [maxLen]; omega)
   have S1:=hide s1
   have S2:=hide s2
   have S3:=hide s3
   clear hcp HR s1 s2 s3
   go_wp2
   go_ret
   exact ⟨_,F',rfl,S1.out,S2.out,S3.out⟩
theorem dtoNames (l:List (List Int)):ToC Tryz.prog 62 (names l):=dtoNames0 l fun x _=>dtoRaw x
theorem infoTrees:(Tryz.prog.info? 47).map (fun i=>(i.zero,i.size,i.bytes))=some (some (.agg #[.int .i64 0,.slice none 0 0,.slice none 0 0,.slice none 0 0]),4,80):=by kernel_rfl
set_option maxRecDepth 20000 in
set_option maxHeartbeats 1600000 in
theorem dtoTrees (l:List T) (he:∀ x∈l,ToA Tryz.prog 163 (T.cells x)):ToC Tryz.prog 195 (seqOf 4 T.cells l):=by
 unfold seqOf
 intro v F w h hbk
 obtain ⟨i0,hi0,hz0,hz1,hz2⟩:=info_parts infoTrees
 obtain ⟨A,c,hv,hc1,hc2,hrd⟩:=h.read
 obtain ⟨N,hN⟩:∃ N,l.length=N:=⟨_,rfl⟩
 obtain ⟨g,hg⟩:∃ g:T→List Cel,T.cells=g:=⟨_,rfl⟩
 have hgn:∀ x,(g x).length=4:=fun x=>by subst hg; rw [x.cells_eq]; rfl
 rw [hg] at hrd hbk ⊢
 rw [hg] at he
 rw [Cel.bulk] at hbk
 rw [hN] at hv hc1 hrd hbk ⊢
 unfold maxLen at hc2
 have hel:∀ x∈l,bulks (g x)≤1048576:=fun x hx=>by
  have h1:bulks (g x)≤bulks (cells g l):=by
   clear hrd he hbk hN h
   induction l with
   | nil=>cases hx
   | cons y l ih =>
     rw [cells,bulks_app]
     rcases List.mem_cons.1 hx with rfl | hx
     ·omega
     ·have:=ih hx; omega
  omega
 have hn20:N≤1048576:=by omega
 have HN:=hide hN
 have HRD:=hide hrd
 have HE:=hide he
 have HGN:=hide hgn
 have HEL:=hide hel
 subst hv
 clear hN hrd he hgn hel hg h hbk
 go_enter Tryz.func195,Tryz.ntmps195
 go_wp2_with (at_make; refine wpList_make_full _ rfl _ _ 45 rfl w.heap.size 47 i0 _ 4 Tryz.underlying45 hi0 hz0 hz1 .i64 .i64 _ _ N rfl rfl rfl rfl (by rw [hz2]; omega) (by simp only [maxLen]; omega) (Nat.le_refl _) ?_; intro w1 own1 gr1)
 have hb1:Below w.heap.size w w1:=(Below.refl _ _).grown gr1 (Nat.le_refl _) (fun _ h=>by cases h)
 obtain ⟨bx1,bl1⟩:=box_of_own own1
 have CP0:=hide (CopyP.start bx1 bl1 hb1 (Nat.le_refl _))
 clear own1 gr1 hb1 bx1 bl1 hi0 hz0 hz1 hz2
 go_loopw [4] (fun i wr=>∃ (j:Nat) (us:List Value) (F2:List Nat),j≤N∧i=.int .i64 j∧Hid (CopyP w w.heap.size 47 (N * 4) (cells g (l.take j)) us F2 wr)) (fun i _=>N - (intOf i).toNat)
 case atStart=>exact ⟨0,[],[],Nat.zero_le _,rfl,CP0⟩
 case round =>
  clear CP0
  obtain ⟨j,us,F2,hj,rfl,HR⟩:=hrel
  by_cases hlt:j < N
  ·obtain ⟨b,off,us0,G,rfl,P⟩:=HRD.out (by omega)
   have hjn:j < l.length:=by rw [HN.out]; exact hlt
   have hln:(cells g (l.take j)).length=j * 4:=by rw [cells_len (sz:=4) HGN.out,List.length_take,HN.out]; congr 1; omega
   have hmem:l[j]∈l:=List.getElem_mem hjn
   have htk:=cells_take g hjn
   rw [cells_split g l j,cells_drop g hjn] at P
   generalize l[j]=x at *
   obtain ⟨y1,G1,n1,c1,l1⟩:=(P.step HR.out.below).mid hln.symm (HGN.out x)
   have s1:((Tryz.prog.info? 136).map (·.size))=some y1.length:=by rw [n1]; kernel_rfl
   have hcall:=HE.out x hmem y1 G1 wr l1 (HEL.out x hmem)
   have HC1:=hide c1
   have HS1:=hide s1
   have HCALL:=hide hcall
   have HTK:=hide htk
   have HLN:=hide hln
   have hgx1:(g x).length=4:=HGN.out x
   have HGX1:=hide hgx1
   have htot:j * 4 + 4≤N * 4:=by
    have:(j + 1) * 4≤N * 4:=Nat.mul_le_mul_right _ hlt
    omega
   have k0:(0:Int)≤(j:Int):=by omega
   have k1:(j:Int) < (N:Int):=by omega
   clear P l1 hmem hjn htk hln hcall hgx1 c1 s1 n1
   go_wp2_with ((with_reducible refine at_load 136 ?_); refine wpList_load_mid rfl _ _ rfl b (off + j * 4) rfl _ _ HC1.out Tryz.underlying136 rfl HS1.out ?_)
   refine HCALL.out.mono ?_
   rintro e w2 ⟨us2,J,rfl,l2,f2,b2⟩
   have hu2:us2.length=4:=l2.len.trans HGX1.out
   obtain ⟨th,cp⟩:=HR.out.put b2 l2 f2 (p:=j * 4) HLN.out.symm (by rw [HLN.out,HGX1.out]; omega)
   rw [← HTK.out] at cp
   obtain ⟨W3,hW3⟩:∃ W3,w2.setCells w.heap.size (j * 4) us2=W3:=⟨_,rfl⟩
   rw [hW3] at cp
   have CP:=hide cp
   have TH:=hide th
   have HW3:=hide hW3
   have ONE:Hid (us2.toArray.all (·.oneCell')=true):=hide (all_oneCell_toArray l2.one)
   have INF:Hid ((Tryz.prog.info? 47).map (·.size)=some us2.toArray.size):=hide (by rw [show us2.toArray.size=4 from hu2]; kernel_rfl)
   clear th cp l2 f2 b2 HCALL hW3 hu2 HC1 HS1
   go_wp2_with ((with_reducible refine at_store 47 ?_); refine wpList_store_mid rfl _ _ _ rfl w.heap.size (j * 4) us2.toArray rfl rfl TH.out INF.out ONE.out ?_; change wpList _ _ _ _ _ (w2.setCells w.heap.size (j * 4) us2); rw [HW3.out])
   go_roundw
   case rel=>exact ⟨j + 1,_,_,by omega,by go_num,CP⟩
   case measure=>simp [intOf]; omega
  ·obtain rfl:j=N:=by omega
   have hcp:=HR.out
   rw [List.take_of_length_le (by rw [HN.out]; omega)] at hcp
   obtain ⟨F',s1,s2,s3⟩:=hcp.stop (by rw [cells_len (sz:=4) HGN.out,HN.out]) (by decide) (by simp only [maxLen]; omega)
   have S1:=hide s1
   have S2:=hide s2
   have S3:=hide s3
   clear hcp HR s1 s2 s3
   go_wp2
   go_ret
   exact ⟨_,F',rfl,S1.out,S2.out,S3.out⟩
set_option maxRecDepth 20000 in
set_option maxHeartbeats 1600000 in
theorem dtoTree0 (x:T) (IH:ToC Tryz.prog 195 (seqOf 4 T.cells x.kids)):ToA Tryz.prog 163 x.cells:=by
 intro us F w h hbk
 have HLT:=h.lt
 have hd:=h
 rw [x.cells_eq] at hd
 obtain ⟨r0,G0,rfl,q0⟩:=hd.nums1
 obtain ⟨A1,m1,c1,r1,G1,rfl,q1⟩:=q0.seqs1
 obtain ⟨A2,m2,c2,r2,G2,rfl,q2⟩:=q1.seqs1
 obtain ⟨A3,m3,c3,r3,G3,rfl,q3⟩:=q2.seqs1
 obtain rfl:=q3.nil1
 clear q0 q1 q2 q3
 obtain ⟨us,hus⟩:∃ us:List Value,[.int .i64 x.kind,.slice A1 m1 c1,.slice A2 m2 c2,.slice A3 m3 c3]=us:=⟨_,rfl⟩
 obtain ⟨wa,hwa⟩:∃ wa,((w.alloc (.cells #[.int .i64 x.kind,.slice A1 m1 c1,.slice A2 m2 c2,.slice A3 m3 c3] 136)).alloc (.cells #[.int .i64 0,.slice none 0 0,.slice none 0 0,.slice none 0 0] 47)).alloc (.cells #[.int .i64 x.kind,.slice none 0 0,.slice none 0 0,.slice none 0 0] 47)=wa:=⟨_,rfl⟩
 have za:wa.heap.size=w.heap.size + 3:=by rw [← hwa]; simp
 have ba:Below w.heap.size w wa:=by rw [← hwa]; exact (((Below.refl _ _).alloc (Nat.le_refl _) _).alloc (by simp) _).alloc (by simp; omega) _
 have bx0:Box wa w.heap.size 136 us:=by rw [← hwa,← hus]; exact ((Box.new w _ _).step ((Below.refl _ _).alloc (Nat.le_refl _) _)).step ((Below.refl _ _).alloc (Nat.le_refl _) _)
 have br0:Box wa (w.heap.size + 1) 47 [.int .i64 0,.slice none 0 0,.slice none 0 0,.slice none 0 0]:=by rw [← hwa]; have:=Box.new (w.alloc (.cells #[.int .i64 x.kind,.slice A1 m1 c1,.slice A2 m2 c2,.slice A3 m3 c3] 136)) [.int .i64 0,.slice none 0 0,.slice none 0 0,.slice none 0 0] 47; rw [World.size_alloc] at this; exact this.step ((Below.refl _ _).alloc (Nat.le_refl _) _)
 have bo0:Box wa (w.heap.size + 1 + 1) 47 [.int .i64 x.kind,.slice none 0 0,.slice none 0 0,.slice none 0 0]:=by rw [← hwa]; have:=Box.new ((w.alloc (.cells #[.int .i64 x.kind,.slice A1 m1 c1,.slice A2 m2 c2,.slice A3 m3 c3] 136)).alloc (.cells #[.int .i64 0,.slice none 0 0,.slice none 0 0,.slice none 0 0] 47)) [.int .i64 x.kind,.slice none 0 0,.slice none 0 0,.slice none 0 0] 47; rw [World.size_alloc,World.size_alloc] at this; exact this
 obtain ⟨D1,hD1⟩:∃ D,(raw x.data).bulk=D:=⟨_,rfl⟩
 obtain ⟨D2,hD2⟩:∃ D,(Go.Proofs.YtgaadpkefncnmaaGreatDoor.names x.names).bulk=D:=⟨_,rfl⟩
 obtain ⟨D3,hD3⟩:∃ D,(seqOf 4 T.cells x.kids).bulk=D:=⟨_,rfl⟩
 have hsum:bulks x.cells=D1 + D2 + D3:=by
  rw [x.cells_top]
  simp only [bulks,hD1,hD2,hD3,num_bulk]
  omega
 rw [hsum] at hbk
 rw [hus] at h
 rw [x.cells_top] at h ⊢
 have L0:Lies wa (([]:List Cel)++[.num .i64 x.kind]) (([]:List Value)++[.int .i64 x.kind]) []:=by
  exact (lies_nil _).append (lies_one (lie_num _ _ _))
 have fr0:=Fresh.nil (w.heap.size + 1 + 1 + 1) wa
 have P0:=(ReadV.start (h.step ba)).next
 have HFL:Hid (∀ g∈F,g < w.heap.size):=hide (fun g hg=>HLT g hg)
 have HUS:=hide hus
 have HB0:=hide ba
 have HIH:=hide IH
 clear IH
 clear h hus ba hsum
 go_enter Tryz.func163,Tryz.ntmps163
 have hl1:w.heap.size + 3≤wa.heap.size:=by omega
 obtain ⟨F1,l1⟩:=P0.call (p:=1) (by simp only [List.length_append,List.length_cons,List.length_nil]) (v:=.slice A1 m1 c1) (by rw [← HUS.out]; rfl)
 have call1:=dtoRaw x.data _ F1 wa l1 (by omega)
 have cc1:=bx0.cell (j:=1) (u:=.slice A1 m1 c1) (by rw [← HUS.out]; rfl)
 have CL1:=hide call1
 have PP1:=hide P0
 have BX1:=hide bx0
 have BR1:=hide br0
 have BO1:=hide bo0
 have LL1:=hide L0
 have FR1:=hide fr0
 clear call1 l1 P0 bx0 br0 bo0 L0 fr0
 go_wp2_with fail
 try rw [hwa]
 refine CL1.out.mono ?_
 rintro e w1 ⟨v1,J1,rfl,k1,f1,b1⟩
 obtain ⟨X1,y1,z1,rfl⟩:∃ X y z,v1=.slice X y z:=by obtain ⟨X,z,e,_,_⟩:=k1.form; exact ⟨_,_,_,e⟩
 have hgl1:=b1.size
 obtain ⟨W1,hW1⟩:∃ W',w1.setCell ⟨w.heap.size + 1 + 1,1,none⟩ (.slice X1 y1 z1)=W':=⟨_,rfl⟩
 obtain ⟨L1,fr1,hb1,hz1,bu1⟩:=filled LL1.out FR1.out HB0.out (by omega) (by omega) b1 (lies_one k1) f1 1 hW1
 have bxs1:=BX1.out.step b1
 have brs1:=BR1.out.step b1
 have bos1:=BO1.out.step b1
 have bx1:=bxs1.keep (bu1.block _ bxs1.lt (by simp <;> omega))
 have br1:=brs1.keep (bu1.block _ brs1.lt (by simp))
 have bo1:Box W1 (w.heap.size + 1 + 1) 47 [.int .i64 x.kind,.slice X1 y1 z1,.slice none 0 0,.slice none 0 0]:=by have:=bos1.set 1 (.slice X1 y1 z1); rw [hW1] at this; exact this
 have P1:ReadV W1 _ _ us F:=⟨(PP1.out.step b1).next.lies.but bu1 (fun g hg he=>by have:=List.mem_singleton.1 he; have:=HFL.out g hg; omega)⟩
 have HB1:=hide hb1
 have HW1:=hide hW1
 clear CL1 PP1 BX1 BR1 BO1 LL1 FR1 k1 f1 b1 bu1 hb1 hW1 bxs1 cc1 hwa
 have cs1:w1.cell? ⟨w.heap.size + 1 + 1,1,none⟩=some (.slice none 0 0):=bos1.cell rfl
 have ct1:=bos1.fz 1
 clear bos1 brs1
 have hl2:w.heap.size + 3≤W1.heap.size:=by omega
 obtain ⟨F2,l2⟩:=P1.call (p:=2) (by simp only [List.length_append,List.length_cons,List.length_nil]) (v:=.slice A2 m2 c2) (by rw [← HUS.out]; rfl)
 have call2:=dtoNames x.names _ F2 W1 l2 (by omega)
 have cc2:=bx1.cell (j:=2) (u:=.slice A2 m2 c2) (by rw [← HUS.out]; rfl)
 rw [← HW1.out,World.cell?_setCell_other _ _ _ _ (by intro e; injection e with e1 e2; omega)] at cc2
 have CL2:=hide call2
 have PP2:=hide P1
 have BX2:=hide bx1
 have BR2:=hide br1
 have BO2:=hide bo1
 have LL2:=hide L1
 have FR2:=hide fr1
 clear call2 l2 P1 bx1 br1 bo1 L1 fr1
 go_wp2_with fail
 rw [HW1.out]
 refine CL2.out.mono ?_
 rintro e w2 ⟨v2,J2,rfl,k2,f2,b2⟩
 obtain ⟨X2,y2,z2,rfl⟩:∃ X y z,v2=.slice X y z:=by obtain ⟨X,z,e,_,_⟩:=k2.form; exact ⟨_,_,_,e⟩
 have hgl2:=b2.size
 obtain ⟨W2,hW2⟩:∃ W',w2.setCell ⟨w.heap.size + 1 + 1,2,none⟩ (.slice X2 y2 z2)=W':=⟨_,rfl⟩
 obtain ⟨L2,fr2,hb2,hz2,bu2⟩:=filled LL2.out FR2.out HB1.out (by omega) (by omega) b2 (lies_one k2) f2 2 hW2
 have bxs2:=BX2.out.step b2
 have brs2:=BR2.out.step b2
 have bos2:=BO2.out.step b2
 have bx2:=bxs2.keep (bu2.block _ bxs2.lt (by simp <;> omega))
 have br2:=brs2.keep (bu2.block _ brs2.lt (by simp))
 have bo2:Box W2 (w.heap.size + 1 + 1) 47 [.int .i64 x.kind,.slice X1 y1 z1,.slice X2 y2 z2,.slice none 0 0]:=by have:=bos2.set 2 (.slice X2 y2 z2); rw [hW2] at this; exact this
 have P2:ReadV W2 _ _ us F:=⟨(PP2.out.step b2).next.lies.but bu2 (fun g hg he=>by have:=List.mem_singleton.1 he; have:=HFL.out g hg; omega)⟩
 have HB2:=hide hb2
 have HW2:=hide hW2
 clear CL2 PP2 BX2 BR2 BO2 LL2 FR2 k2 f2 b2 bu2 hb2 hW2 bxs2 cs1 ct1 cc2 HW1
 have cs2:w2.cell? ⟨w.heap.size + 1 + 1,2,none⟩=some (.slice none 0 0):=bos2.cell rfl
 have ct2:=bos2.fz 2
 clear bos2 brs2
 have hl3:w.heap.size + 3≤W2.heap.size:=by omega
 obtain ⟨F3,l3⟩:=P2.call (p:=3) (by simp only [List.length_append,List.length_cons,List.length_nil]) (v:=.slice A3 m3 c3) (by rw [← HUS.out]; rfl)
 have call3:=HIH.out _ F3 W2 l3 (by omega)
 have cc3:=bx2.cell (j:=3) (u:=.slice A3 m3 c3) (by rw [← HUS.out]; rfl)
 rw [← HW2.out,World.cell?_setCell_other _ _ _ _ (by intro e; injection e with e1 e2; omega)] at cc3
 have CL3:=hide call3
 have PP3:=hide P2
 have BX3:=hide bx2
 have BR3:=hide br2
 have BO3:=hide bo2
 have LL3:=hide L2
 have FR3:=hide fr2
 clear call3 l3 P2 bx2 br2 bo2 L2 fr2
 go_wp2_with fail
 rw [HW2.out]
 refine CL3.out.mono ?_
 rintro e w3 ⟨v3,J3,rfl,k3,f3,b3⟩
 obtain ⟨X3,y3,z3,rfl⟩:∃ X y z,v3=.slice X y z:=by obtain ⟨X,z,e,_,_⟩:=k3.form; exact ⟨_,_,_,e⟩
 have hgl3:=b3.size
 obtain ⟨W3,hW3⟩:∃ W',w3.setCell ⟨w.heap.size + 1 + 1,3,none⟩ (.slice X3 y3 z3)=W':=⟨_,rfl⟩
 obtain ⟨L3,fr3,hb3,hz3,bu3⟩:=filled LL3.out FR3.out HB2.out (by omega) (by omega) b3 (lies_one k3) f3 3 hW3
 have bxs3:=BX3.out.step b3
 have brs3:=BR3.out.step b3
 have bos3:=BO3.out.step b3
 have bx3:=bxs3.keep (bu3.block _ bxs3.lt (by simp <;> omega))
 have br3:=brs3.keep (bu3.block _ brs3.lt (by simp))
 have bo3:Box W3 (w.heap.size + 1 + 1) 47 [.int .i64 x.kind,.slice X1 y1 z1,.slice X2 y2 z2,.slice X3 y3 z3]:=by have:=bos3.set 3 (.slice X3 y3 z3); rw [hW3] at this; exact this
 have P3:ReadV W3 _ _ us F:=⟨(PP3.out.step b3).next.lies.but bu3 (fun g hg he=>by have:=List.mem_singleton.1 he; have:=HFL.out g hg; omega)⟩
 have HB3:=hide hb3
 have HW3:=hide hW3
 clear CL3 PP3 BX3 BR3 BO3 LL3 FR3 k3 f3 b3 bu3 hb3 hW3 bxs3 cs2 ct2 cc3 HW2
 have cs3:w3.cell? ⟨w.heap.size + 1 + 1,3,none⟩=some (.slice none 0 0):=bos3.cell rfl
 have ct3:=bos3.fz 3
 clear bos3 brs3
 have RGE:Hid (W3.rangeAt (w.heap.size + 1 + 1) 0 [.int .i64 x.kind,.slice X1 y1 z1,.slice X2 y2 z2,.slice X3 y3 z3]):=hide bo3.range
 have THE:Hid (W3.there (w.heap.size + 1) 0 4):=hide (br3.there (by simp))
 have ONE:Hid ((#[.int .i64 x.kind,.slice X1 y1 z1,.slice X2 y2 z2,.slice X3 y3 z3]:Array Value).all (·.oneCell')=true):=hide (by simp [Value.oneCell'])
 have FIN:Hid (∀ WZ,W3.setCells (w.heap.size + 1) 0 [.int .i64 x.kind,.slice X1 y1 z1,.slice X2 y2 z2,.slice X3 y3 z3]=WZ→∃ us' F',(Ending.returned (.agg #[.int .i64 x.kind,.slice X1 y1 z1,.slice X2 y2 z2,.slice X3 y3 z3])=.returned (.agg us'.toArray))∧Lies WZ (.num .i64 x.kind :: (raw x.data :: (Go.Proofs.YtgaadpkefncnmaaGreatDoor.names x.names :: (seqOf 4 T.cells x.kids :: [])))) us' F'∧Fresh w.heap.size WZ F'∧Below w.heap.size w WZ):=hide (by
  intro WZ hWZ
  have bu:=but_sets W3 (w.heap.size + 1) [.int .i64 x.kind,.slice X1 y1 z1,.slice X2 y2 z2,.slice X3 y3 z3] 0
  rw [hWZ] at bu
  obtain ⟨FF,LL,ff⟩:∃ FF,Lies W3 _ _ FF∧Fresh _ W3 FF:=⟨_,L3,fr3⟩
  have h1:=LL.but bu (fun g hg he=>by have:=ff.low g hg; have:=List.mem_singleton.1 he; omega)
  simp only [List.nil_append,List.cons_append,List.append_assoc] at h1
  have h2:Fresh w.heap.size WZ FF:=⟨ff.nodup,fun g hg=>by have:=ff.low g hg; omega,ff.live.but bu (fun g hg he=>by have:=ff.low g hg; have:=List.mem_singleton.1 he; omega)⟩
  have h3:Below w.heap.size w WZ:=bu.below HB3.out (fun g hg=>by have:=List.mem_singleton.1 hg; omega) HB3.out.size
  exact ⟨[.int .i64 x.kind,.slice X1 y1 z1,.slice X2 y2 z2,.slice X3 y3 z3],FF,rfl,h1,h2,h3⟩)
 have HBR:=hide (br3.sets (vs:=[.int .i64 x.kind,.slice X1 y1 z1,.slice X2 y2 z2,.slice X3 y3 z3]) (o:=0))
 clear L3 fr3 P3 bx3 br3 bo3
 go_wp2_with (first
  | ((with_reducible refine at_load 47 ?_); rw [HW3.out]; refine wpList_load_mid rfl _ _ rfl (w.heap.size + 1 + 1) 0 rfl [.int .i64 x.kind,.slice X1 y1 z1,.slice X2 y2 z2,.slice X3 y3 z3] _ RGE.out Tryz.underlying47 rfl (by kernel_rfl) ?_)
  | ((with_reducible refine at_store 47 ?_); refine wpList_store_mid rfl _ _ _ rfl (w.heap.size + 1) 0 #[.int .i64 x.kind,.slice X1 y1 z1,.slice X2 y2 z2,.slice X3 y3 z3] rfl rfl THE.out (by kernel_rfl) ONE.out ?_))
 exact bodyPost_ret (results_cell_row rfl _ _ (w.heap.size + 1) 47 #[.int .i64 x.kind,.slice X1 y1 z1,.slice X2 y2 z2,.slice X3 y3 z3] (0,0) _ rfl HBR.out Tryz.underlying47 rfl (by kernel_rfl)) rfl (FIN.out _ rfl)
theorem dtoTree:∀ t:T,ToA Tryz.prog 163 t.cells:=by
 intro t
 induction t using T.ind with
 | h k d ns ks ih=>exact dtoTree0 _ (dtoTrees ks ih)
set_option maxRecDepth 20000 in
set_option maxHeartbeats 1600000 in
theorem dtoReal0 (x:DReal):ToA Tryz.prog 114 x.cells:=by
 intro us F w h hbk
 have HLT:=h.lt
 have hd:=h
 rw [x.cells_eq] at hd
 obtain ⟨A0,m0,c0,r0,G0,rfl,q0⟩:=hd.seqs1
 obtain ⟨A1,m1,c1,r1,G1,rfl,q1⟩:=q0.seqs1
 obtain ⟨A2,m2,c2,r2,G2,rfl,q2⟩:=q1.seqs1
 obtain rfl:=q2.nil1
 clear q0 q1 q2
 obtain ⟨us,hus⟩:∃ us:List Value,[.slice A0 m0 c0,.slice A1 m1 c1,.slice A2 m2 c2]=us:=⟨_,rfl⟩
 obtain ⟨wa,hwa⟩:∃ wa,((w.alloc (.cells #[.slice A0 m0 c0,.slice A1 m1 c1,.slice A2 m2 c2] 140)).alloc (.cells #[.slice none 0 0,.slice none 0 0,.slice none 0 0] 106)).alloc (.cells #[.slice none 0 0,.slice none 0 0,.slice none 0 0] 106)=wa:=⟨_,rfl⟩
 have za:wa.heap.size=w.heap.size + 3:=by rw [← hwa]; simp
 have ba:Below w.heap.size w wa:=by rw [← hwa]; exact (((Below.refl _ _).alloc (Nat.le_refl _) _).alloc (by simp) _).alloc (by simp; omega) _
 have bx0:Box wa w.heap.size 140 us:=by rw [← hwa,← hus]; exact ((Box.new w _ _).step ((Below.refl _ _).alloc (Nat.le_refl _) _)).step ((Below.refl _ _).alloc (Nat.le_refl _) _)
 have br0:Box wa (w.heap.size + 1) 106 [.slice none 0 0,.slice none 0 0,.slice none 0 0]:=by rw [← hwa]; have:=Box.new (w.alloc (.cells #[.slice A0 m0 c0,.slice A1 m1 c1,.slice A2 m2 c2] 140)) [.slice none 0 0,.slice none 0 0,.slice none 0 0] 106; rw [World.size_alloc] at this; exact this.step ((Below.refl _ _).alloc (Nat.le_refl _) _)
 have bo0:Box wa (w.heap.size + 1 + 1) 106 [.slice none 0 0,.slice none 0 0,.slice none 0 0]:=by rw [← hwa]; have:=Box.new ((w.alloc (.cells #[.slice A0 m0 c0,.slice A1 m1 c1,.slice A2 m2 c2] 140)).alloc (.cells #[.slice none 0 0,.slice none 0 0,.slice none 0 0] 106)) [.slice none 0 0,.slice none 0 0,.slice none 0 0] 106; rw [World.size_alloc,World.size_alloc] at this; exact this
 obtain ⟨D0,hD0⟩:∃ D,(raw x.drv).bulk=D:=⟨_,rfl⟩
 obtain ⟨D1,hD1⟩:∃ D,(raw x.out).bulk=D:=⟨_,rfl⟩
 obtain ⟨D2,hD2⟩:∃ D,(raw x.path).bulk=D:=⟨_,rfl⟩
 have hsum:bulks x.cells=D0 + D1 + D2:=by
  rw [x.cells_top]
  simp only [bulks,hD0,hD1,hD2]
  omega
 rw [hsum] at hbk
 rw [hus] at h
 rw [x.cells_top] at h ⊢
 have L0:Lies wa (([]:List Cel)) (([]:List Value)) []:=by
  exact lies_nil _
 have fr0:=Fresh.nil (w.heap.size + 1 + 1 + 1) wa
 have P0:=ReadV.start (h.step ba)
 have HFL:Hid (∀ g∈F,g < w.heap.size):=hide (fun g hg=>HLT g hg)
 have HUS:=hide hus
 have HB0:=hide ba
 clear h hus ba hsum
 go_enter Tryz.func114,Tryz.ntmps114
 have hl1:w.heap.size + 3≤wa.heap.size:=by omega
 obtain ⟨F1,l1⟩:=P0.call (p:=0) (by rfl) (v:=.slice A0 m0 c0) (by rw [← HUS.out]; rfl)
 have call1:=dtoRaw x.drv _ F1 wa l1 (by omega)
 have cc1:=bx0.cell (j:=0) (u:=.slice A0 m0 c0) (by rw [← HUS.out]; rfl)
 have CL1:=hide call1
 have PP1:=hide P0
 have BX1:=hide bx0
 have BR1:=hide br0
 have BO1:=hide bo0
 have LL1:=hide L0
 have FR1:=hide fr0
 clear call1 l1 P0 bx0 br0 bo0 L0 fr0
 go_wp2_with fail
 try rw [hwa]
 refine CL1.out.mono ?_
 rintro e w1 ⟨v1,J1,rfl,k1,f1,b1⟩
 obtain ⟨X1,y1,z1,rfl⟩:∃ X y z,v1=.slice X y z:=by obtain ⟨X,z,e,_,_⟩:=k1.form; exact ⟨_,_,_,e⟩
 have hgl1:=b1.size
 obtain ⟨W1,hW1⟩:∃ W',w1.setCell ⟨w.heap.size + 1 + 1,0,none⟩ (.slice X1 y1 z1)=W':=⟨_,rfl⟩
 obtain ⟨L1,fr1,hb1,hz1,bu1⟩:=filled LL1.out FR1.out HB0.out (by omega) (by omega) b1 (lies_one k1) f1 0 hW1
 have bxs1:=BX1.out.step b1
 have brs1:=BR1.out.step b1
 have bos1:=BO1.out.step b1
 have bx1:=bxs1.keep (bu1.block _ bxs1.lt (by simp <;> omega))
 have br1:=brs1.keep (bu1.block _ brs1.lt (by simp))
 have bo1:Box W1 (w.heap.size + 1 + 1) 106 [.slice X1 y1 z1,.slice none 0 0,.slice none 0 0]:=by have:=bos1.set 0 (.slice X1 y1 z1); rw [hW1] at this; exact this
 have P1:ReadV W1 _ _ us F:=⟨(PP1.out.step b1).next.lies.but bu1 (fun g hg he=>by have:=List.mem_singleton.1 he; have:=HFL.out g hg; omega)⟩
 have HB1:=hide hb1
 have HW1:=hide hW1
 clear CL1 PP1 BX1 BR1 BO1 LL1 FR1 k1 f1 b1 bu1 hb1 hW1 bxs1 cc1 hwa
 have cs1:w1.cell? ⟨w.heap.size + 1 + 1,0,none⟩=some (.slice none 0 0):=bos1.cell rfl
 have ct1:=bos1.fz 0
 clear bos1 brs1
 have hl2:w.heap.size + 3≤W1.heap.size:=by omega
 obtain ⟨F2,l2⟩:=P1.call (p:=1) (by simp only [List.length_append,List.length_cons,List.length_nil]) (v:=.slice A1 m1 c1) (by rw [← HUS.out]; rfl)
 have call2:=dtoRaw x.out _ F2 W1 l2 (by omega)
 have cc2:=bx1.cell (j:=1) (u:=.slice A1 m1 c1) (by rw [← HUS.out]; rfl)
 rw [← HW1.out,World.cell?_setCell_other _ _ _ _ (by intro e; injection e with e1 e2; omega)] at cc2
 have CL2:=hide call2
 have PP2:=hide P1
 have BX2:=hide bx1
 have BR2:=hide br1
 have BO2:=hide bo1
 have LL2:=hide L1
 have FR2:=hide fr1
 clear call2 l2 P1 bx1 br1 bo1 L1 fr1
 go_wp2_with fail
 rw [HW1.out]
 refine CL2.out.mono ?_
 rintro e w2 ⟨v2,J2,rfl,k2,f2,b2⟩
 obtain ⟨X2,y2,z2,rfl⟩:∃ X y z,v2=.slice X y z:=by obtain ⟨X,z,e,_,_⟩:=k2.form; exact ⟨_,_,_,e⟩
 have hgl2:=b2.size
 obtain ⟨W2,hW2⟩:∃ W',w2.setCell ⟨w.heap.size + 1 + 1,1,none⟩ (.slice X2 y2 z2)=W':=⟨_,rfl⟩
 obtain ⟨L2,fr2,hb2,hz2,bu2⟩:=filled LL2.out FR2.out HB1.out (by omega) (by omega) b2 (lies_one k2) f2 1 hW2
 have bxs2:=BX2.out.step b2
 have brs2:=BR2.out.step b2
 have bos2:=BO2.out.step b2
 have bx2:=bxs2.keep (bu2.block _ bxs2.lt (by simp <;> omega))
 have br2:=brs2.keep (bu2.block _ brs2.lt (by simp))
 have bo2:Box W2 (w.heap.size + 1 + 1) 106 [.slice X1 y1 z1,.slice X2 y2 z2,.slice none 0 0]:=by have:=bos2.set 1 (.slice X2 y2 z2); rw [hW2] at this; exact this
 have P2:ReadV W2 _ _ us F:=⟨(PP2.out.step b2).next.lies.but bu2 (fun g hg he=>by have:=List.mem_singleton.1 he; have:=HFL.out g hg; omega)⟩
 have HB2:=hide hb2
 have HW2:=hide hW2
 clear CL2 PP2 BX2 BR2 BO2 LL2 FR2 k2 f2 b2 bu2 hb2 hW2 bxs2 cs1 ct1 cc2 HW1
 have cs2:w2.cell? ⟨w.heap.size + 1 + 1,1,none⟩=some (.slice none 0 0):=bos2.cell rfl
 have ct2:=bos2.fz 1
 clear bos2 brs2
 have hl3:w.heap.size + 3≤W2.heap.size:=by omega
 obtain ⟨F3,l3⟩:=P2.call (p:=2) (by simp only [List.length_append,List.length_cons,List.length_nil]) (v:=.slice A2 m2 c2) (by rw [← HUS.out]; rfl)
 have call3:=dtoRaw x.path _ F3 W2 l3 (by omega)
 have cc3:=bx2.cell (j:=2) (u:=.slice A2 m2 c2) (by rw [← HUS.out]; rfl)
 rw [← HW2.out,World.cell?_setCell_other _ _ _ _ (by intro e; injection e with e1 e2; omega)] at cc3
 have CL3:=hide call3
 have PP3:=hide P2
 have BX3:=hide bx2
 have BR3:=hide br2
 have BO3:=hide bo2
 have LL3:=hide L2
 have FR3:=hide fr2
 clear call3 l3 P2 bx2 br2 bo2 L2 fr2
 go_wp2_with fail
 rw [HW2.out]
 refine CL3.out.mono ?_
 rintro e w3 ⟨v3,J3,rfl,k3,f3,b3⟩
 obtain ⟨X3,y3,z3,rfl⟩:∃ X y z,v3=.slice X y z:=by obtain ⟨X,z,e,_,_⟩:=k3.form; exact ⟨_,_,_,e⟩
 have hgl3:=b3.size
 obtain ⟨W3,hW3⟩:∃ W',w3.setCell ⟨w.heap.size + 1 + 1,2,none⟩ (.slice X3 y3 z3)=W':=⟨_,rfl⟩
 obtain ⟨L3,fr3,hb3,hz3,bu3⟩:=filled LL3.out FR3.out HB2.out (by omega) (by omega) b3 (lies_one k3) f3 2 hW3
 have bxs3:=BX3.out.step b3
 have brs3:=BR3.out.step b3
 have bos3:=BO3.out.step b3
 have bx3:=bxs3.keep (bu3.block _ bxs3.lt (by simp <;> omega))
 have br3:=brs3.keep (bu3.block _ brs3.lt (by simp))
 have bo3:Box W3 (w.heap.size + 1 + 1) 106 [.slice X1 y1 z1,.slice X2 y2 z2,.slice X3 y3 z3]:=by have:=bos3.set 2 (.slice X3 y3 z3); rw [hW3] at this; exact this
 have P3:ReadV W3 _ _ us F:=⟨(PP3.out.step b3).next.lies.but bu3 (fun g hg he=>by have:=List.mem_singleton.1 he; have:=HFL.out g hg; omega)⟩
 have HB3:=hide hb3
 have HW3:=hide hW3
 clear CL3 PP3 BX3 BR3 BO3 LL3 FR3 k3 f3 b3 bu3 hb3 hW3 bxs3 cs2 ct2 cc3 HW2
 have cs3:w3.cell? ⟨w.heap.size + 1 + 1,2,none⟩=some (.slice none 0 0):=bos3.cell rfl
 have ct3:=bos3.fz 2
 clear bos3 brs3
 have RGE:Hid (W3.rangeAt (w.heap.size + 1 + 1) 0 [.slice X1 y1 z1,.slice X2 y2 z2,.slice X3 y3 z3]):=hide bo3.range
 have THE:Hid (W3.there (w.heap.size + 1) 0 3):=hide (br3.there (by simp))
 have ONE:Hid ((#[.slice X1 y1 z1,.slice X2 y2 z2,.slice X3 y3 z3]:Array Value).all (·.oneCell')=true):=hide (by simp [Value.oneCell'])
 have FIN:Hid (∀ WZ,W3.setCells (w.heap.size + 1) 0 [.slice X1 y1 z1,.slice X2 y2 z2,.slice X3 y3 z3]=WZ→∃ us' F',(Ending.returned (.agg #[.slice X1 y1 z1,.slice X2 y2 z2,.slice X3 y3 z3])=.returned (.agg us'.toArray))∧Lies WZ (raw x.drv :: (raw x.out :: (raw x.path :: []))) us' F'∧Fresh w.heap.size WZ F'∧Below w.heap.size w WZ):=hide (by
  intro WZ hWZ
  have bu:=but_sets W3 (w.heap.size + 1) [.slice X1 y1 z1,.slice X2 y2 z2,.slice X3 y3 z3] 0
  rw [hWZ] at bu
  obtain ⟨FF,LL,ff⟩:∃ FF,Lies W3 _ _ FF∧Fresh _ W3 FF:=⟨_,L3,fr3⟩
  have h1:=LL.but bu (fun g hg he=>by have:=ff.low g hg; have:=List.mem_singleton.1 he; omega)
  simp only [List.nil_append,List.cons_append,List.append_assoc] at h1
  have h2:Fresh w.heap.size WZ FF:=⟨ff.nodup,fun g hg=>by have:=ff.low g hg; omega,ff.live.but bu (fun g hg he=>by have:=ff.low g hg; have:=List.mem_singleton.1 he; omega)⟩
  have h3:Below w.heap.size w WZ:=bu.below HB3.out (fun g hg=>by have:=List.mem_singleton.1 hg; omega) HB3.out.size
  exact ⟨[.slice X1 y1 z1,.slice X2 y2 z2,.slice X3 y3 z3],FF,rfl,h1,h2,h3⟩)
 have HBR:=hide (br3.sets (vs:=[.slice X1 y1 z1,.slice X2 y2 z2,.slice X3 y3 z3]) (o:=0))
 clear L3 fr3 P3 bx3 br3 bo3
 go_wp2_with (first
  | ((with_reducible refine at_load 106 ?_); rw [HW3.out]; refine wpList_load_mid rfl _ _ rfl (w.heap.size + 1 + 1) 0 rfl [.slice X1 y1 z1,.slice X2 y2 z2,.slice X3 y3 z3] _ RGE.out Tryz.underlying106 rfl (by kernel_rfl) ?_)
  | ((with_reducible refine at_store 106 ?_); refine wpList_store_mid rfl _ _ _ rfl (w.heap.size + 1) 0 #[.slice X1 y1 z1,.slice X2 y2 z2,.slice X3 y3 z3] rfl rfl THE.out (by kernel_rfl) ONE.out ?_))
 exact bodyPost_ret (results_cell_row rfl _ _ (w.heap.size + 1) 106 #[.slice X1 y1 z1,.slice X2 y2 z2,.slice X3 y3 z3] (0,0) _ rfl HBR.out Tryz.underlying106 rfl (by kernel_rfl)) rfl (FIN.out _ rfl)
theorem dtoReal (x:DReal):ToA Tryz.prog 114 x.cells:=dtoReal0 x
theorem infoRealS0:(Tryz.prog.info? 106).map (fun i=>(i.zero,i.size,i.bytes))=some (some (.agg #[.slice none 0 0,.slice none 0 0,.slice none 0 0]),3,72):=by kernel_rfl
set_option maxRecDepth 20000 in
set_option maxHeartbeats 1600000 in
theorem dtoRealS0 (l:List DReal) (he:∀ x∈l,ToA Tryz.prog 114 (DReal.cells x)):ToC Tryz.prog 63 (seqOf 3 DReal.cells l):=by
 unfold seqOf
 intro v F w h hbk
 obtain ⟨i0,hi0,hz0,hz1,hz2⟩:=info_parts infoRealS0
 obtain ⟨A,c,hv,hc1,hc2,hrd⟩:=h.read
 obtain ⟨N,hN⟩:∃ N,l.length=N:=⟨_,rfl⟩
 obtain ⟨g,hg⟩:∃ g:DReal→List Cel,DReal.cells=g:=⟨_,rfl⟩
 have hgn:∀ x,(g x).length=3:=fun x=>by subst hg; rw [x.cells_eq]; rfl
 rw [hg] at hrd hbk ⊢
 rw [hg] at he
 rw [Cel.bulk] at hbk
 rw [hN] at hv hc1 hrd hbk ⊢
 unfold maxLen at hc2
 have hel:∀ x∈l,bulks (g x)≤1048576:=fun x hx=>by
  have h1:bulks (g x)≤bulks (cells g l):=by
   clear hrd he hbk hN h
   induction l with
   | nil=>cases hx
   | cons y l ih =>
     rw [cells,bulks_app]
     rcases List.mem_cons.1 hx with rfl | hx
     ·omega
     ·have:=ih hx; omega
  omega
 have hn20:N≤1048576:=by omega
 have HN:=hide hN
 have HRD:=hide hrd
 have HE:=hide he
 have HGN:=hide hgn
 have HEL:=hide hel
 subst hv
 clear hN hrd he hgn hel hg h hbk
 go_enter Tryz.func63,Tryz.ntmps63
 go_wp2_with (at_make; refine wpList_make_full _ rfl _ _ 30 rfl w.heap.size 106 i0 _ 3 Tryz.underlying30 hi0 hz0 hz1 .i64 .i64 _ _ N rfl rfl rfl rfl (by rw [hz2]; omega) (by simp only [maxLen]; omega) (Nat.le_refl _) ?_; intro w1 own1 gr1)
 have hb1:Below w.heap.size w w1:=(Below.refl _ _).grown gr1 (Nat.le_refl _) (fun _ h=>by cases h)
 obtain ⟨bx1,bl1⟩:=box_of_own own1
 have CP0:=hide (CopyP.start bx1 bl1 hb1 (Nat.le_refl _))
 clear own1 gr1 hb1 bx1 bl1 hi0 hz0 hz1 hz2
 go_loopw [4] (fun i wr=>∃ (j:Nat) (us:List Value) (F2:List Nat),j≤N∧i=.int .i64 j∧Hid (CopyP w w.heap.size 106 (N * 3) (cells g (l.take j)) us F2 wr)) (fun i _=>N - (intOf i).toNat)
 case atStart=>exact ⟨0,[],[],Nat.zero_le _,rfl,CP0⟩
 case round =>
  clear CP0
  obtain ⟨j,us,F2,hj,rfl,HR⟩:=hrel
  by_cases hlt:j < N
  ·obtain ⟨b,off,us0,G,rfl,P⟩:=HRD.out (by omega)
   have hjn:j < l.length:=by rw [HN.out]; exact hlt
   have hln:(cells g (l.take j)).length=j * 3:=by rw [cells_len (sz:=3) HGN.out,List.length_take,HN.out]; congr 1; omega
   have hmem:l[j]∈l:=List.getElem_mem hjn
   have htk:=cells_take g hjn
   rw [cells_split g l j,cells_drop g hjn] at P
   generalize l[j]=x at *
   obtain ⟨y1,G1,n1,c1,l1⟩:=(P.step HR.out.below).mid hln.symm (HGN.out x)
   have s1:((Tryz.prog.info? 140).map (·.size))=some y1.length:=by rw [n1]; kernel_rfl
   have hcall:=HE.out x hmem y1 G1 wr l1 (HEL.out x hmem)
   have HC1:=hide c1
   have HS1:=hide s1
   have HCALL:=hide hcall
   have HTK:=hide htk
   have HLN:=hide hln
   have hgx1:(g x).length=3:=HGN.out x
   have HGX1:=hide hgx1
   have htot:j * 3 + 3≤N * 3:=by
    have:(j + 1) * 3≤N * 3:=Nat.mul_le_mul_right _ hlt
    omega
   have k0:(0:Int)≤(j:Int):=by omega
   have k1:(j:Int) < (N:Int):=by omega
   clear P l1 hmem hjn htk hln hcall hgx1 c1 s1 n1
   go_wp2_with ((with_reducible refine at_load 140 ?_); refine wpList_load_mid rfl _ _ rfl b (off + j * 3) rfl _ _ HC1.out Tryz.underlying140 rfl HS1.out ?_)
   refine HCALL.out.mono ?_
   rintro e w2 ⟨us2,J,rfl,l2,f2,b2⟩
   have hu2:us2.length=3:=l2.len.trans HGX1.out
   obtain ⟨th,cp⟩:=HR.out.put b2 l2 f2 (p:=j * 3) HLN.out.symm (by rw [HLN.out,HGX1.out]; omega)
   rw [← HTK.out] at cp
   obtain ⟨W3,hW3⟩:∃ W3,w2.setCells w.heap.size (j * 3) us2=W3:=⟨_,rfl⟩
   rw [hW3] at cp
   have CP:=hide cp
   have TH:=hide th
   have HW3:=hide hW3
   have ONE:Hid (us2.toArray.all (·.oneCell')=true):=hide (all_oneCell_toArray l2.one)
   have INF:Hid ((Tryz.prog.info? 106).map (·.size)=some us2.toArray.size):=hide (by rw [show us2.toArray.size=3 from hu2]; kernel_rfl)
   clear th cp l2 f2 b2 HCALL hW3 hu2 HC1 HS1
   go_wp2_with ((with_reducible refine at_store 106 ?_); refine wpList_store_mid rfl _ _ _ rfl w.heap.size (j * 3) us2.toArray rfl rfl TH.out INF.out ONE.out ?_; change wpList _ _ _ _ _ (w2.setCells w.heap.size (j * 3) us2); rw [HW3.out])
   go_roundw
   case rel=>exact ⟨j + 1,_,_,by omega,by go_num,CP⟩
   case measure=>simp [intOf]; omega
  ·obtain rfl:j=N:=by omega
   have hcp:=HR.out
   rw [List.take_of_length_le (by rw [HN.out]; omega)] at hcp
   obtain ⟨F',s1,s2,s3⟩:=hcp.stop (by rw [cells_len (sz:=3) HGN.out,HN.out]) (by decide) (by simp only [maxLen]; omega)
   have S1:=hide s1
   have S2:=hide s2
   have S3:=hide s3
   clear hcp HR s1 s2 s3
   go_wp2
   go_ret
   exact ⟨_,F',rfl,S1.out,S2.out,S3.out⟩
theorem dtoRealS (l:List DReal):ToC Tryz.prog 63 (seqOf 3 DReal.cells l):=dtoRealS0 l fun x _=>dtoReal x
set_option maxRecDepth 20000 in
set_option maxHeartbeats 1600000 in
theorem dtoObj0 (x:DObj):ToA Tryz.prog 113 x.cells:=by
 intro us F w h hbk
 have HLT:=h.lt
 have hd:=h
 rw [x.cells_eq] at hd
 obtain ⟨A0,m0,c0,r0,G0,rfl,q0⟩:=hd.seqs1
 obtain ⟨r1,G1,rfl,q1⟩:=q0.nums1
 obtain ⟨r2,G2,rfl,q2⟩:=q1.nums1
 obtain ⟨A3,m3,c3,r3,G3,rfl,q3⟩:=q2.seqs1
 obtain ⟨A4,m4,c4,r4,G4,rfl,q4⟩:=q3.seqs1
 obtain ⟨A5,m5,c5,r5,G5,rfl,q5⟩:=q4.seqs1
 obtain ⟨A6,m6,c6,r6,G6,rfl,q6⟩:=q5.seqs1
 obtain ⟨A7,m7,c7,r7,G7,rfl,q7⟩:=q6.seqs1
 obtain ⟨A8,m8,c8,r8,G8,rfl,q8⟩:=q7.seqs1
 obtain rfl:=q8.nil1
 clear q0 q1 q2 q3 q4 q5 q6 q7 q8
 obtain ⟨us,hus⟩:∃ us:List Value,[.slice A0 m0 c0,.int .i64 x.kind,.int .i64 x.tree.kind,.slice A3 m3 c3,.slice A4 m4 c4,.slice A5 m5 c5,.slice A6 m6 c6,.slice A7 m7 c7,.slice A8 m8 c8]=us:=⟨_,rfl⟩
 obtain ⟨wa,hwa⟩:∃ wa,((w.alloc (.cells #[.slice A0 m0 c0,.int .i64 x.kind,.int .i64 x.tree.kind,.slice A3 m3 c3,.slice A4 m4 c4,.slice A5 m5 c5,.slice A6 m6 c6,.slice A7 m7 c7,.slice A8 m8 c8] 138)).alloc (.cells #[.slice none 0 0,.int .i64 0,.int .i64 0,.slice none 0 0,.slice none 0 0,.slice none 0 0,.slice none 0 0,.slice none 0 0,.slice none 0 0] 49)).alloc (.cells #[.slice none 0 0,.int .i64 0,.int .i64 0,.slice none 0 0,.slice none 0 0,.slice none 0 0,.slice none 0 0,.slice none 0 0,.slice none 0 0] 49)=wa:=⟨_,rfl⟩
 have za:wa.heap.size=w.heap.size + 3:=by rw [← hwa]; simp
 have ba:Below w.heap.size w wa:=by rw [← hwa]; exact (((Below.refl _ _).alloc (Nat.le_refl _) _).alloc (by simp) _).alloc (by simp; omega) _
 have bx0:Box wa w.heap.size 138 us:=by rw [← hwa,← hus]; exact ((Box.new w _ _).step ((Below.refl _ _).alloc (Nat.le_refl _) _)).step ((Below.refl _ _).alloc (Nat.le_refl _) _)
 have br0:Box wa (w.heap.size + 1) 49 [.slice none 0 0,.int .i64 0,.int .i64 0,.slice none 0 0,.slice none 0 0,.slice none 0 0,.slice none 0 0,.slice none 0 0,.slice none 0 0]:=by rw [← hwa]; have:=Box.new (w.alloc (.cells #[.slice A0 m0 c0,.int .i64 x.kind,.int .i64 x.tree.kind,.slice A3 m3 c3,.slice A4 m4 c4,.slice A5 m5 c5,.slice A6 m6 c6,.slice A7 m7 c7,.slice A8 m8 c8] 138)) [.slice none 0 0,.int .i64 0,.int .i64 0,.slice none 0 0,.slice none 0 0,.slice none 0 0,.slice none 0 0,.slice none 0 0,.slice none 0 0] 49; rw [World.size_alloc] at this; exact this.step ((Below.refl _ _).alloc (Nat.le_refl _) _)
 have bo0:Box wa (w.heap.size + 1 + 1) 49 [.slice none 0 0,.int .i64 0,.int .i64 0,.slice none 0 0,.slice none 0 0,.slice none 0 0,.slice none 0 0,.slice none 0 0,.slice none 0 0]:=by rw [← hwa]; have:=Box.new ((w.alloc (.cells #[.slice A0 m0 c0,.int .i64 x.kind,.int .i64 x.tree.kind,.slice A3 m3 c3,.slice A4 m4 c4,.slice A5 m5 c5,.slice A6 m6 c6,.slice A7 m7 c7,.slice A8 m8 c8] 138)).alloc (.cells #[.slice none 0 0,.int .i64 0,.int .i64 0,.slice none 0 0,.slice none 0 0,.slice none 0 0,.slice none 0 0,.slice none 0 0,.slice none 0 0] 49)) [.slice none 0 0,.int .i64 0,.int .i64 0,.slice none 0 0,.slice none 0 0,.slice none 0 0,.slice none 0 0,.slice none 0 0,.slice none 0 0] 49; rw [World.size_alloc,World.size_alloc] at this; exact this
 obtain ⟨D0,hD0⟩:∃ D,(raw x.name).bulk=D:=⟨_,rfl⟩
 obtain ⟨D2,hD2⟩:∃ D,bulks x.tree.cells=D:=⟨_,rfl⟩
 obtain ⟨D3,hD3⟩:∃ D,(Go.Proofs.YtgaadpkefncnmaaGreatDoor.names x.refs).bulk=D:=⟨_,rfl⟩
 obtain ⟨D4,hD4⟩:∃ D,(raw x.frm).bulk=D:=⟨_,rfl⟩
 obtain ⟨D5,hD5⟩:∃ D,(raw x.out).bulk=D:=⟨_,rfl⟩
 have hsum:bulks x.cells=D0 + D2 + D3 + D4 + D5:=by
  rw [x.cells_top]
  simp only [bulks_app,bulks,hD0,hD2,hD3,hD4,hD5,num_bulk]
  omega
 rw [hsum] at hbk
 rw [hus] at h
 rw [x.cells_top] at h ⊢
 have L0:Lies wa (([]:List Cel)) (([]:List Value)) []:=by
  exact lies_nil _
 have fr0:=Fresh.nil (w.heap.size + 1 + 1 + 1) wa
 have P0:=ReadV.start (h.step ba)
 have HFL:Hid (∀ g∈F,g < w.heap.size):=hide (fun g hg=>HLT g hg)
 have HUS:=hide hus
 have HB0:=hide ba
 clear h hus ba hsum
 go_enter Tryz.func113,Tryz.ntmps113
 have hl1:w.heap.size + 3≤wa.heap.size:=by omega
 obtain ⟨F1,l1⟩:=P0.call (p:=0) (by rfl) (v:=.slice A0 m0 c0) (by rw [← HUS.out]; rfl)
 have call1:=dtoRaw x.name _ F1 wa l1 (by omega)
 have cc1:=bx0.cell (j:=0) (u:=.slice A0 m0 c0) (by rw [← HUS.out]; rfl)
 have CL1:=hide call1
 have PP1:=hide P0
 have BX1:=hide bx0
 have BR1:=hide br0
 have BO1:=hide bo0
 have LL1:=hide L0
 have FR1:=hide fr0
 clear call1 l1 P0 bx0 br0 bo0 L0 fr0
 go_wp2_with fail
 try rw [hwa]
 refine CL1.out.mono ?_
 rintro e w1 ⟨v1,J1,rfl,k1,f1,b1⟩
 obtain ⟨X1,y1,z1,rfl⟩:∃ X y z,v1=.slice X y z:=by obtain ⟨X,z,e,_,_⟩:=k1.form; exact ⟨_,_,_,e⟩
 have hgl1:=b1.size
 obtain ⟨W1,hW1⟩:∃ W',w1.setCell ⟨w.heap.size + 1 + 1,0,none⟩ (.slice X1 y1 z1)=W':=⟨_,rfl⟩
 obtain ⟨L1,fr1,hb1,hz1,bu1⟩:=filled LL1.out FR1.out HB0.out (by omega) (by omega) b1 (lies_one k1) f1 0 hW1
 have bxs1:=BX1.out.step b1
 have brs1:=BR1.out.step b1
 have bos1:=BO1.out.step b1
 have bx1:=bxs1.keep (bu1.block _ bxs1.lt (by simp <;> omega))
 have br1:=brs1.keep (bu1.block _ brs1.lt (by simp))
 have bo1:Box W1 (w.heap.size + 1 + 1) 49 [.slice X1 y1 z1,.int .i64 0,.int .i64 0,.slice none 0 0,.slice none 0 0,.slice none 0 0,.slice none 0 0,.slice none 0 0,.slice none 0 0]:=by have:=bos1.set 0 (.slice X1 y1 z1); rw [hW1] at this; exact this
 have P1:ReadV W1 _ _ us F:=⟨(PP1.out.step b1).next.lies.but bu1 (fun g hg he=>by have:=List.mem_singleton.1 he; have:=HFL.out g hg; omega)⟩
 have HB1:=hide hb1
 have HW1:=hide hW1
 clear CL1 PP1 BX1 BR1 BO1 LL1 FR1 k1 f1 b1 bu1 hb1 hW1 bxs1 cc1 hwa
 have cs1:w1.cell? ⟨w.heap.size + 1 + 1,0,none⟩=some (.slice none 0 0):=bos1.cell rfl
 have ct1:=bos1.fz 0
 clear bos1 brs1
 obtain ⟨W2,hW2⟩:∃ W',W1.setCell ⟨w.heap.size + 1 + 1,1,none⟩ (.int .i64 x.kind)=W':=⟨_,rfl⟩
 obtain ⟨L2,fr2,hb2,hz2,bu2⟩:=filled L1 fr1 HB1.out (by omega) (by omega) (Below.refl _ _) (lies_one (lie_num _ _ _)) (Fresh.nil _ _) 1 hW2
 have hz2b:w.heap.size + 3≤W2.heap.size:=by omega
 have bx2:=bx1.keep (bu2.block _ bx1.lt (by simp <;> omega))
 have br2:=br1.keep (bu2.block _ br1.lt (by simp))
 have bo2:Box W2 (w.heap.size + 1 + 1) 49 [.slice X1 y1 z1,.int .i64 x.kind,.int .i64 0,.slice none 0 0,.slice none 0 0,.slice none 0 0,.slice none 0 0,.slice none 0 0,.slice none 0 0]:=by have:=bo1.set 1 (.int .i64 x.kind); rw [hW2] at this; exact this
 have P2:ReadV W2 _ _ us F:=⟨P1.next.lies.but bu2 (fun g hg he=>by have:=List.mem_singleton.1 he; have:=HFL.out g hg; omega)⟩
 have HB2:=hide hb2
 have HW2:=hide hW2
 have cc2:=bx1.cell (j:=1) (u:=.int .i64 x.kind) (by rw [← HUS.out]; rfl)
 have cd2:W1.cell? ⟨w.heap.size + 1 + 1,1,none⟩=some (.int .i64 0):=bo1.cell rfl
 have cf2:=bo1.fz 1
 rw [← HW1.out,World.cell?_setCell_other _ _ _ _ (by intro e; injection e with e1 e2; omega)] at cc2 cd2
 rw [← HW1.out,World.frozen?_setCell] at cf2
 clear L1 fr1 P1 bx1 br1 bo1 hb2 bu2 hW2
 have hl3:w.heap.size + 3≤W2.heap.size:=by omega
 obtain ⟨F3,l3⟩:=P2.mid (p:=2) (n:=4) (by simp only [List.length_append,List.length_cons,List.length_nil]) (by rw [T.cells_len]) (ms:=[.int .i64 x.tree.kind,.slice A3 m3 c3,.slice A4 m4 c4,.slice A5 m5 c5]) (by rw [← HUS.out]; rfl)
 have call3:=dtoTree x.tree [.int .i64 x.tree.kind,.slice A3 m3 c3,.slice A4 m4 c4,.slice A5 m5 c5] F3 W2 l3 (by omega)
 have RG3:Hid (W2.rangeAt w.heap.size 2 [.int .i64 x.tree.kind,.slice A3 m3 c3,.slice A4 m4 c4,.slice A5 m5 c5]):=hide (by have:=bx2.mid 2 4; rw [← HUS.out] at this; exact this)
 have CL3:=hide call3
 have PP3:=hide P2
 have BX3:=hide bx2
 have BR3:=hide br2
 have BO3:=hide bo2
 have LL3:=hide L2
 have FR3:=hide fr2
 clear call3 l3 P2 bx2 br2 bo2 L2 fr2
 go_wp2_with ((with_reducible refine at_load 136 ?_); rw [HW1.out]; rw [HW2.out]; refine wpList_load_mid rfl _ _ rfl w.heap.size 2 rfl _ _ RG3.out Tryz.underlying136 rfl (by kernel_rfl) ?_)
 refine CL3.out.mono ?_
 rintro e w3 ⟨ms3,J3,rfl,k3,f3,b3⟩
 have kd3:=k3
 rw [T.cells_eq] at kd3
 obtain ⟨R3_0,G3_0,rfl,t3_0⟩:=kd3.nums1
 obtain ⟨X3_1,y3_1,z3_1,R3_1,G3_1,rfl,t3_1⟩:=t3_0.seqs1
 obtain ⟨X3_2,y3_2,z3_2,R3_2,G3_2,rfl,t3_2⟩:=t3_1.seqs1
 obtain ⟨X3_3,y3_3,z3_3,R3_3,G3_3,rfl,t3_3⟩:=t3_2.seqs1
 obtain rfl:=t3_3.nil1
 clear t3_0 t3_1 t3_2 t3_3
 have hgl3:=b3.size
 obtain ⟨W3,hW3⟩:∃ W',w3.setCells (w.heap.size + 1 + 1) 2 [.int .i64 x.tree.kind,.slice X3_1 y3_1 z3_1,.slice X3_2 y3_2 z3_2,.slice X3_3 y3_3 z3_3]=W':=⟨_,rfl⟩
 obtain ⟨L3,fr3,hb3,hz3,bu3⟩:=filled LL3.out FR3.out HB2.out (by omega) (by omega) b3 k3 f3 2 hW3
 have bxs3:=BX3.out.step b3
 have brs3:=BR3.out.step b3
 have bos3:=BO3.out.step b3
 have bx3:=bxs3.keep (bu3.block _ bxs3.lt (by simp <;> omega))
 have br3:=brs3.keep (bu3.block _ brs3.lt (by simp))
 have bo3:Box W3 (w.heap.size + 1 + 1) 49 [.slice X1 y1 z1,.int .i64 x.kind,.int .i64 x.tree.kind,.slice X3_1 y3_1 z3_1,.slice X3_2 y3_2 z3_2,.slice X3_3 y3_3 z3_3,.slice none 0 0,.slice none 0 0,.slice none 0 0]:=by have:=bos3.sets (vs:=[.int .i64 x.tree.kind,.slice X3_1 y3_1 z3_1,.slice X3_2 y3_2 z3_2,.slice X3_3 y3_3 z3_3]) (o:=2); rw [hW3] at this; exact this
 have P3:ReadV W3 _ _ us F:=⟨(PP3.out.step b3).skip.lies.but bu3 (fun g hg he=>by have:=List.mem_singleton.1 he; have:=HFL.out g hg; omega)⟩
 have HB3:=hide hb3
 have HW3:=hide hW3
 clear CL3 PP3 BX3 BR3 BO3 LL3 FR3 k3 f3 b3 bu3 hb3 hW3 bxs3 cs1 ct1 cc2 cd2 cf2 RG3 HW1 HW2
 have TH3:Hid (w3.there (w.heap.size + 1 + 1) 2 4):=hide (bos3.there (by simp))
 clear bos3 brs3
 have ON3:Hid ((#[.int .i64 x.tree.kind,.slice X3_1 y3_1 z3_1,.slice X3_2 y3_2 z3_2,.slice X3_3 y3_3 z3_3]:Array Value).all (·.oneCell')=true):=hide (by simp [Value.oneCell'])
 have hl4:w.heap.size + 3≤W3.heap.size:=by omega
 obtain ⟨F4,l4⟩:=P3.call (p:=6) (by simp only [List.length_append,List.length_cons,List.length_nil,T.cells_len]) (v:=.slice A6 m6 c6) (by rw [← HUS.out]; rfl)
 have call4:=dtoNames x.refs _ F4 W3 l4 (by omega)
 have cc4:=bx3.cell (j:=6) (u:=.slice A6 m6 c6) (by rw [← HUS.out]; rfl)
 have CL4:=hide call4
 have PP4:=hide P3
 have BX4:=hide bx3
 have BR4:=hide br3
 have BO4:=hide bo3
 have LL4:=hide L3
 have FR4:=hide fr3
 clear call4 l4 P3 bx3 br3 bo3 L3 fr3
 go_wp2_with ((with_reducible refine at_store 47 ?_); refine wpList_store_mid rfl _ _ _ rfl (w.heap.size + 1 + 1) 2 #[.int .i64 x.tree.kind,.slice X3_1 y3_1 z3_1,.slice X3_2 y3_2 z3_2,.slice X3_3 y3_3 z3_3] rfl rfl TH3.out (by kernel_rfl) ON3.out ?_; change wpList _ _ _ _ _ (w3.setCells (w.heap.size + 1 + 1) 2 [.int .i64 x.tree.kind,.slice X3_1 y3_1 z3_1,.slice X3_2 y3_2 z3_2,.slice X3_3 y3_3 z3_3]); rw [HW3.out])
 refine CL4.out.mono ?_
 rintro e w4 ⟨v4,J4,rfl,k4,f4,b4⟩
 obtain ⟨X4,y4,z4,rfl⟩:∃ X y z,v4=.slice X y z:=by obtain ⟨X,z,e,_,_⟩:=k4.form; exact ⟨_,_,_,e⟩
 have hgl4:=b4.size
 obtain ⟨W4,hW4⟩:∃ W',w4.setCell ⟨w.heap.size + 1 + 1,6,none⟩ (.slice X4 y4 z4)=W':=⟨_,rfl⟩
 obtain ⟨L4,fr4,hb4,hz4,bu4⟩:=filled LL4.out FR4.out HB3.out (by omega) (by omega) b4 (lies_one k4) f4 6 hW4
 have bxs4:=BX4.out.step b4
 have brs4:=BR4.out.step b4
 have bos4:=BO4.out.step b4
 have bx4:=bxs4.keep (bu4.block _ bxs4.lt (by simp <;> omega))
 have br4:=brs4.keep (bu4.block _ brs4.lt (by simp))
 have bo4:Box W4 (w.heap.size + 1 + 1) 49 [.slice X1 y1 z1,.int .i64 x.kind,.int .i64 x.tree.kind,.slice X3_1 y3_1 z3_1,.slice X3_2 y3_2 z3_2,.slice X3_3 y3_3 z3_3,.slice X4 y4 z4,.slice none 0 0,.slice none 0 0]:=by have:=bos4.set 6 (.slice X4 y4 z4); rw [hW4] at this; exact this
 have P4:ReadV W4 _ _ us F:=⟨(PP4.out.step b4).next.lies.but bu4 (fun g hg he=>by have:=List.mem_singleton.1 he; have:=HFL.out g hg; omega)⟩
 have HB4:=hide hb4
 have HW4:=hide hW4
 clear CL4 PP4 BX4 BR4 BO4 LL4 FR4 k4 f4 b4 bu4 hb4 hW4 bxs4 cc4
 have cs4:w4.cell? ⟨w.heap.size + 1 + 1,6,none⟩=some (.slice none 0 0):=bos4.cell rfl
 have ct4:=bos4.fz 6
 clear bos4 brs4
 have hl5:w.heap.size + 3≤W4.heap.size:=by omega
 obtain ⟨F5,l5⟩:=P4.call (p:=7) (by simp only [List.length_append,List.length_cons,List.length_nil,T.cells_len]) (v:=.slice A7 m7 c7) (by rw [← HUS.out]; rfl)
 have call5:=dtoRaw x.frm _ F5 W4 l5 (by omega)
 have cc5:=bx4.cell (j:=7) (u:=.slice A7 m7 c7) (by rw [← HUS.out]; rfl)
 rw [← HW4.out,World.cell?_setCell_other _ _ _ _ (by intro e; injection e with e1 e2; omega)] at cc5
 have CL5:=hide call5
 have PP5:=hide P4
 have BX5:=hide bx4
 have BR5:=hide br4
 have BO5:=hide bo4
 have LL5:=hide L4
 have FR5:=hide fr4
 clear call5 l5 P4 bx4 br4 bo4 L4 fr4
 go_wp2_with fail
 rw [HW4.out]
 refine CL5.out.mono ?_
 rintro e w5 ⟨v5,J5,rfl,k5,f5,b5⟩
 obtain ⟨X5,y5,z5,rfl⟩:∃ X y z,v5=.slice X y z:=by obtain ⟨X,z,e,_,_⟩:=k5.form; exact ⟨_,_,_,e⟩
 have hgl5:=b5.size
 obtain ⟨W5,hW5⟩:∃ W',w5.setCell ⟨w.heap.size + 1 + 1,7,none⟩ (.slice X5 y5 z5)=W':=⟨_,rfl⟩
 obtain ⟨L5,fr5,hb5,hz5,bu5⟩:=filled LL5.out FR5.out HB4.out (by omega) (by omega) b5 (lies_one k5) f5 7 hW5
 have bxs5:=BX5.out.step b5
 have brs5:=BR5.out.step b5
 have bos5:=BO5.out.step b5
 have bx5:=bxs5.keep (bu5.block _ bxs5.lt (by simp <;> omega))
 have br5:=brs5.keep (bu5.block _ brs5.lt (by simp))
 have bo5:Box W5 (w.heap.size + 1 + 1) 49 [.slice X1 y1 z1,.int .i64 x.kind,.int .i64 x.tree.kind,.slice X3_1 y3_1 z3_1,.slice X3_2 y3_2 z3_2,.slice X3_3 y3_3 z3_3,.slice X4 y4 z4,.slice X5 y5 z5,.slice none 0 0]:=by have:=bos5.set 7 (.slice X5 y5 z5); rw [hW5] at this; exact this
 have P5:ReadV W5 _ _ us F:=⟨(PP5.out.step b5).next.lies.but bu5 (fun g hg he=>by have:=List.mem_singleton.1 he; have:=HFL.out g hg; omega)⟩
 have HB5:=hide hb5
 have HW5:=hide hW5
 clear CL5 PP5 BX5 BR5 BO5 LL5 FR5 k5 f5 b5 bu5 hb5 hW5 bxs5 cs4 ct4 cc5 HW4
 have cs5:w5.cell? ⟨w.heap.size + 1 + 1,7,none⟩=some (.slice none 0 0):=bos5.cell rfl
 have ct5:=bos5.fz 7
 clear bos5 brs5
 have hl6:w.heap.size + 3≤W5.heap.size:=by omega
 obtain ⟨F6,l6⟩:=P5.call (p:=8) (by simp only [List.length_append,List.length_cons,List.length_nil,T.cells_len]) (v:=.slice A8 m8 c8) (by rw [← HUS.out]; rfl)
 have call6:=dtoRaw x.out _ F6 W5 l6 (by omega)
 have cc6:=bx5.cell (j:=8) (u:=.slice A8 m8 c8) (by rw [← HUS.out]; rfl)
 rw [← HW5.out,World.cell?_setCell_other _ _ _ _ (by intro e; injection e with e1 e2; omega)] at cc6
 have CL6:=hide call6
 have PP6:=hide P5
 have BX6:=hide bx5
 have BR6:=hide br5
 have BO6:=hide bo5
 have LL6:=hide L5
 have FR6:=hide fr5
 clear call6 l6 P5 bx5 br5 bo5 L5 fr5
 go_wp2_with fail
 rw [HW5.out]
 refine CL6.out.mono ?_
 rintro e w6 ⟨v6,J6,rfl,k6,f6,b6⟩
 obtain ⟨X6,y6,z6,rfl⟩:∃ X y z,v6=.slice X y z:=by obtain ⟨X,z,e,_,_⟩:=k6.form; exact ⟨_,_,_,e⟩
 have hgl6:=b6.size
 obtain ⟨W6,hW6⟩:∃ W',w6.setCell ⟨w.heap.size + 1 + 1,8,none⟩ (.slice X6 y6 z6)=W':=⟨_,rfl⟩
 obtain ⟨L6,fr6,hb6,hz6,bu6⟩:=filled LL6.out FR6.out HB5.out (by omega) (by omega) b6 (lies_one k6) f6 8 hW6
 have bxs6:=BX6.out.step b6
 have brs6:=BR6.out.step b6
 have bos6:=BO6.out.step b6
 have bx6:=bxs6.keep (bu6.block _ bxs6.lt (by simp <;> omega))
 have br6:=brs6.keep (bu6.block _ brs6.lt (by simp))
 have bo6:Box W6 (w.heap.size + 1 + 1) 49 [.slice X1 y1 z1,.int .i64 x.kind,.int .i64 x.tree.kind,.slice X3_1 y3_1 z3_1,.slice X3_2 y3_2 z3_2,.slice X3_3 y3_3 z3_3,.slice X4 y4 z4,.slice X5 y5 z5,.slice X6 y6 z6]:=by have:=bos6.set 8 (.slice X6 y6 z6); rw [hW6] at this; exact this
 have P6:ReadV W6 _ _ us F:=⟨(PP6.out.step b6).next.lies.but bu6 (fun g hg he=>by have:=List.mem_singleton.1 he; have:=HFL.out g hg; omega)⟩
 have HB6:=hide hb6
 have HW6:=hide hW6
 clear CL6 PP6 BX6 BR6 BO6 LL6 FR6 k6 f6 b6 bu6 hb6 hW6 bxs6 cs5 ct5 cc6 HW5
 have cs6:w6.cell? ⟨w.heap.size + 1 + 1,8,none⟩=some (.slice none 0 0):=bos6.cell rfl
 have ct6:=bos6.fz 8
 clear bos6 brs6
 have RGE:Hid (W6.rangeAt (w.heap.size + 1 + 1) 0 [.slice X1 y1 z1,.int .i64 x.kind,.int .i64 x.tree.kind,.slice X3_1 y3_1 z3_1,.slice X3_2 y3_2 z3_2,.slice X3_3 y3_3 z3_3,.slice X4 y4 z4,.slice X5 y5 z5,.slice X6 y6 z6]):=hide bo6.range
 have THE:Hid (W6.there (w.heap.size + 1) 0 9):=hide (br6.there (by simp))
 have ONE:Hid ((#[.slice X1 y1 z1,.int .i64 x.kind,.int .i64 x.tree.kind,.slice X3_1 y3_1 z3_1,.slice X3_2 y3_2 z3_2,.slice X3_3 y3_3 z3_3,.slice X4 y4 z4,.slice X5 y5 z5,.slice X6 y6 z6]:Array Value).all (·.oneCell')=true):=hide (by simp [Value.oneCell'])
 have FIN:Hid (∀ WZ,W6.setCells (w.heap.size + 1) 0 [.slice X1 y1 z1,.int .i64 x.kind,.int .i64 x.tree.kind,.slice X3_1 y3_1 z3_1,.slice X3_2 y3_2 z3_2,.slice X3_3 y3_3 z3_3,.slice X4 y4 z4,.slice X5 y5 z5,.slice X6 y6 z6]=WZ→∃ us' F',(Ending.returned (.agg #[.slice X1 y1 z1,.int .i64 x.kind,.int .i64 x.tree.kind,.slice X3_1 y3_1 z3_1,.slice X3_2 y3_2 z3_2,.slice X3_3 y3_3 z3_3,.slice X4 y4 z4,.slice X5 y5 z5,.slice X6 y6 z6])=.returned (.agg us'.toArray))∧Lies WZ (raw x.name :: (.num .i64 x.kind :: (x.tree.cells++(Go.Proofs.YtgaadpkefncnmaaGreatDoor.names x.refs :: (raw x.frm :: (raw x.out :: [])))))) us' F'∧Fresh w.heap.size WZ F'∧Below w.heap.size w WZ):=hide (by
  intro WZ hWZ
  have bu:=but_sets W6 (w.heap.size + 1) [.slice X1 y1 z1,.int .i64 x.kind,.int .i64 x.tree.kind,.slice X3_1 y3_1 z3_1,.slice X3_2 y3_2 z3_2,.slice X3_3 y3_3 z3_3,.slice X4 y4 z4,.slice X5 y5 z5,.slice X6 y6 z6] 0
  rw [hWZ] at bu
  obtain ⟨FF,LL,ff⟩:∃ FF,Lies W6 _ _ FF∧Fresh _ W6 FF:=⟨_,L6,fr6⟩
  have h1:=LL.but bu (fun g hg he=>by have:=ff.low g hg; have:=List.mem_singleton.1 he; omega)
  simp only [List.nil_append,List.cons_append,List.append_assoc] at h1
  have h2:Fresh w.heap.size WZ FF:=⟨ff.nodup,fun g hg=>by have:=ff.low g hg; omega,ff.live.but bu (fun g hg he=>by have:=ff.low g hg; have:=List.mem_singleton.1 he; omega)⟩
  have h3:Below w.heap.size w WZ:=bu.below HB6.out (fun g hg=>by have:=List.mem_singleton.1 hg; omega) HB6.out.size
  exact ⟨[.slice X1 y1 z1,.int .i64 x.kind,.int .i64 x.tree.kind,.slice X3_1 y3_1 z3_1,.slice X3_2 y3_2 z3_2,.slice X3_3 y3_3 z3_3,.slice X4 y4 z4,.slice X5 y5 z5,.slice X6 y6 z6],FF,rfl,h1,h2,h3⟩)
 have HBR:=hide (br6.sets (vs:=[.slice X1 y1 z1,.int .i64 x.kind,.int .i64 x.tree.kind,.slice X3_1 y3_1 z3_1,.slice X3_2 y3_2 z3_2,.slice X3_3 y3_3 z3_3,.slice X4 y4 z4,.slice X5 y5 z5,.slice X6 y6 z6]) (o:=0))
 clear L6 fr6 P6 bx6 br6 bo6
 go_wp2_with (first
  | ((with_reducible refine at_load 49 ?_); rw [HW6.out]; refine wpList_load_mid rfl _ _ rfl (w.heap.size + 1 + 1) 0 rfl [.slice X1 y1 z1,.int .i64 x.kind,.int .i64 x.tree.kind,.slice X3_1 y3_1 z3_1,.slice X3_2 y3_2 z3_2,.slice X3_3 y3_3 z3_3,.slice X4 y4 z4,.slice X5 y5 z5,.slice X6 y6 z6] _ RGE.out Tryz.underlying49 rfl (by kernel_rfl) ?_)
  | ((with_reducible refine at_store 49 ?_); refine wpList_store_mid rfl _ _ _ rfl (w.heap.size + 1) 0 #[.slice X1 y1 z1,.int .i64 x.kind,.int .i64 x.tree.kind,.slice X3_1 y3_1 z3_1,.slice X3_2 y3_2 z3_2,.slice X3_3 y3_3 z3_3,.slice X4 y4 z4,.slice X5 y5 z5,.slice X6 y6 z6] rfl rfl THE.out (by kernel_rfl) ONE.out ?_))
 exact bodyPost_ret (results_cell_row rfl _ _ (w.heap.size + 1) 49 #[.slice X1 y1 z1,.int .i64 x.kind,.int .i64 x.tree.kind,.slice X3_1 y3_1 z3_1,.slice X3_2 y3_2 z3_2,.slice X3_3 y3_3 z3_3,.slice X4 y4 z4,.slice X5 y5 z5,.slice X6 y6 z6] (0,0) _ rfl HBR.out Tryz.underlying49 rfl (by kernel_rfl)) rfl (FIN.out _ rfl)
theorem dtoObj (x:DObj):ToA Tryz.prog 113 x.cells:=dtoObj0 x
theorem infoObjS0:(Tryz.prog.info? 49).map (fun i=>(i.zero,i.size,i.bytes))=some (some (.agg #[.slice none 0 0,.int .i64 0,.int .i64 0,.slice none 0 0,.slice none 0 0,.slice none 0 0,.slice none 0 0,.slice none 0 0,.slice none 0 0]),9,184):=by kernel_rfl
set_option maxRecDepth 20000 in
set_option maxHeartbeats 1600000 in
theorem dtoObjS0 (l:List DObj) (he:∀ x∈l,ToA Tryz.prog 113 (DObj.cells x)):ToC Tryz.prog 61 (seqOf 9 DObj.cells l):=by
 unfold seqOf
 intro v F w h hbk
 obtain ⟨i0,hi0,hz0,hz1,hz2⟩:=info_parts infoObjS0
 obtain ⟨A,c,hv,hc1,hc2,hrd⟩:=h.read
 obtain ⟨N,hN⟩:∃ N,l.length=N:=⟨_,rfl⟩
 obtain ⟨g,hg⟩:∃ g:DObj→List Cel,DObj.cells=g:=⟨_,rfl⟩
 have hgn:∀ x,(g x).length=9:=fun x=>by subst hg; rw [x.cells_eq]; rfl
 rw [hg] at hrd hbk ⊢
 rw [hg] at he
 rw [Cel.bulk] at hbk
 rw [hN] at hv hc1 hrd hbk ⊢
 unfold maxLen at hc2
 have hel:∀ x∈l,bulks (g x)≤1048576:=fun x hx=>by
  have h1:bulks (g x)≤bulks (cells g l):=by
   clear hrd he hbk hN h
   induction l with
   | nil=>cases hx
   | cons y l ih =>
     rw [cells,bulks_app]
     rcases List.mem_cons.1 hx with rfl | hx
     ·omega
     ·have:=ih hx; omega
  omega
 have hn20:N≤1048576:=by omega
 have HN:=hide hN
 have HRD:=hide hrd
 have HE:=hide he
 have HGN:=hide hgn
 have HEL:=hide hel
 subst hv
 clear hN hrd he hgn hel hg h hbk
 go_enter Tryz.func61,Tryz.ntmps61
 go_wp2_with (at_make; refine wpList_make_full _ rfl _ _ 29 rfl w.heap.size 49 i0 _ 9 Tryz.underlying29 hi0 hz0 hz1 .i64 .i64 _ _ N rfl rfl rfl rfl (by rw [hz2]; omega) (by simp only [maxLen]; omega) (Nat.le_refl _) ?_; intro w1 own1 gr1)
 have hb1:Below w.heap.size w w1:=(Below.refl _ _).grown gr1 (Nat.le_refl _) (fun _ h=>by cases h)
 obtain ⟨bx1,bl1⟩:=box_of_own own1
 have CP0:=hide (CopyP.start bx1 bl1 hb1 (Nat.le_refl _))
 clear own1 gr1 hb1 bx1 bl1 hi0 hz0 hz1 hz2
 go_loopw [4] (fun i wr=>∃ (j:Nat) (us:List Value) (F2:List Nat),j≤N∧i=.int .i64 j∧Hid (CopyP w w.heap.size 49 (N * 9) (cells g (l.take j)) us F2 wr)) (fun i _=>N - (intOf i).toNat)
 case atStart=>exact ⟨0,[],[],Nat.zero_le _,rfl,CP0⟩
 case round =>
  clear CP0
  obtain ⟨j,us,F2,hj,rfl,HR⟩:=hrel
  by_cases hlt:j < N
  ·obtain ⟨b,off,us0,G,rfl,P⟩:=HRD.out (by omega)
   have hjn:j < l.length:=by rw [HN.out]; exact hlt
   have hln:(cells g (l.take j)).length=j * 9:=by rw [cells_len (sz:=9) HGN.out,List.length_take,HN.out]; congr 1; omega
   have hmem:l[j]∈l:=List.getElem_mem hjn
   have htk:=cells_take g hjn
   rw [cells_split g l j,cells_drop g hjn] at P
   generalize l[j]=x at *
   obtain ⟨y1,G1,n1,c1,l1⟩:=(P.step HR.out.below).mid hln.symm (HGN.out x)
   have s1:((Tryz.prog.info? 138).map (·.size))=some y1.length:=by rw [n1]; kernel_rfl
   have hcall:=HE.out x hmem y1 G1 wr l1 (HEL.out x hmem)
   have HC1:=hide c1
   have HS1:=hide s1
   have HCALL:=hide hcall
   have HTK:=hide htk
   have HLN:=hide hln
   have hgx1:(g x).length=9:=HGN.out x
   have HGX1:=hide hgx1
   have htot:j * 9 + 9≤N * 9:=by
    have:(j + 1) * 9≤N * 9:=Nat.mul_le_mul_right _ hlt
    omega
   have k0:(0:Int)≤(j:Int):=by omega
   have k1:(j:Int) < (N:Int):=by omega
   clear P l1 hmem hjn htk hln hcall hgx1 c1 s1 n1
   go_wp2_with ((with_reducible refine at_load 138 ?_); refine wpList_load_mid rfl _ _ rfl b (off + j * 9) rfl _ _ HC1.out Tryz.underlying138 rfl HS1.out ?_)
   refine HCALL.out.mono ?_
   rintro e w2 ⟨us2,J,rfl,l2,f2,b2⟩
   have hu2:us2.length=9:=l2.len.trans HGX1.out
   obtain ⟨th,cp⟩:=HR.out.put b2 l2 f2 (p:=j * 9) HLN.out.symm (by rw [HLN.out,HGX1.out]; omega)
   rw [← HTK.out] at cp
   obtain ⟨W3,hW3⟩:∃ W3,w2.setCells w.heap.size (j * 9) us2=W3:=⟨_,rfl⟩
   rw [hW3] at cp
   have CP:=hide cp
   have TH:=hide th
   have HW3:=hide hW3
   have ONE:Hid (us2.toArray.all (·.oneCell')=true):=hide (all_oneCell_toArray l2.one)
   have INF:Hid ((Tryz.prog.info? 49).map (·.size)=some us2.toArray.size):=hide (by rw [show us2.toArray.size=9 from hu2]; kernel_rfl)
   clear th cp l2 f2 b2 HCALL hW3 hu2 HC1 HS1
   go_wp2_with ((with_reducible refine at_store 49 ?_); refine wpList_store_mid rfl _ _ _ rfl w.heap.size (j * 9) us2.toArray rfl rfl TH.out INF.out ONE.out ?_; change wpList _ _ _ _ _ (w2.setCells w.heap.size (j * 9) us2); rw [HW3.out])
   go_roundw
   case rel=>exact ⟨j + 1,_,_,by omega,by go_num,CP⟩
   case measure=>simp [intOf]; omega
  ·obtain rfl:j=N:=by omega
   have hcp:=HR.out
   rw [List.take_of_length_le (by rw [HN.out]; omega)] at hcp
   obtain ⟨F',s1,s2,s3⟩:=hcp.stop (by rw [cells_len (sz:=9) HGN.out,HN.out]) (by decide) (by simp only [maxLen]; omega)
   have S1:=hide s1
   have S2:=hide s2
   have S3:=hide s3
   clear hcp HR s1 s2 s3
   go_wp2
   go_ret
   exact ⟨_,F',rfl,S1.out,S2.out,S3.out⟩
theorem dtoObjS (l:List DObj):ToC Tryz.prog 61 (seqOf 9 DObj.cells l):=dtoObjS0 l fun x _=>dtoObj x
set_option maxRecDepth 20000 in
set_option maxHeartbeats 1600000 in
theorem dtoStore0 (x:DStore):ToA Tryz.prog 17 x.cells:=by
 intro us F w h hbk
 have HLT:=h.lt
 have hd:=h
 rw [x.cells_eq] at hd
 obtain ⟨A0,m0,c0,r0,G0,rfl,q0⟩:=hd.seqs1
 obtain ⟨A1,m1,c1,r1,G1,rfl,q1⟩:=q0.seqs1
 obtain ⟨A2,m2,c2,r2,G2,rfl,q2⟩:=q1.seqs1
 obtain rfl:=q2.nil1
 clear q0 q1 q2
 obtain ⟨us,hus⟩:∃ us:List Value,[.slice A0 m0 c0,.slice A1 m1 c1,.slice A2 m2 c2]=us:=⟨_,rfl⟩
 obtain ⟨wa,hwa⟩:∃ wa,((w.alloc (.cells #[.slice A0 m0 c0,.slice A1 m1 c1,.slice A2 m2 c2] 26)).alloc (.cells #[.slice none 0 0,.slice none 0 0,.slice none 0 0] 32)).alloc (.cells #[.slice none 0 0,.slice none 0 0,.slice none 0 0] 32)=wa:=⟨_,rfl⟩
 have za:wa.heap.size=w.heap.size + 3:=by rw [← hwa]; simp
 have ba:Below w.heap.size w wa:=by rw [← hwa]; exact (((Below.refl _ _).alloc (Nat.le_refl _) _).alloc (by simp) _).alloc (by simp; omega) _
 have bx0:Box wa w.heap.size 26 us:=by rw [← hwa,← hus]; exact ((Box.new w _ _).step ((Below.refl _ _).alloc (Nat.le_refl _) _)).step ((Below.refl _ _).alloc (Nat.le_refl _) _)
 have br0:Box wa (w.heap.size + 1) 32 [.slice none 0 0,.slice none 0 0,.slice none 0 0]:=by rw [← hwa]; have:=Box.new (w.alloc (.cells #[.slice A0 m0 c0,.slice A1 m1 c1,.slice A2 m2 c2] 26)) [.slice none 0 0,.slice none 0 0,.slice none 0 0] 32; rw [World.size_alloc] at this; exact this.step ((Below.refl _ _).alloc (Nat.le_refl _) _)
 have bo0:Box wa (w.heap.size + 1 + 1) 32 [.slice none 0 0,.slice none 0 0,.slice none 0 0]:=by rw [← hwa]; have:=Box.new ((w.alloc (.cells #[.slice A0 m0 c0,.slice A1 m1 c1,.slice A2 m2 c2] 26)).alloc (.cells #[.slice none 0 0,.slice none 0 0,.slice none 0 0] 32)) [.slice none 0 0,.slice none 0 0,.slice none 0 0] 32; rw [World.size_alloc,World.size_alloc] at this; exact this
 obtain ⟨D0,hD0⟩:∃ D,(seqOf 9 DObj.cells x.objs).bulk=D:=⟨_,rfl⟩
 obtain ⟨D1,hD1⟩:∃ D,(Go.Proofs.YtgaadpkefncnmaaGreatDoor.names x.roots).bulk=D:=⟨_,rfl⟩
 obtain ⟨D2,hD2⟩:∃ D,(seqOf 3 DReal.cells x.reals).bulk=D:=⟨_,rfl⟩
 have hsum:bulks x.cells=D0 + D1 + D2:=by
  rw [x.cells_top]
  simp only [bulks,hD0,hD1,hD2]
  omega
 rw [hsum] at hbk
 rw [hus] at h
 rw [x.cells_top] at h ⊢
 have L0:Lies wa (([]:List Cel)) (([]:List Value)) []:=by
  exact lies_nil _
 have fr0:=Fresh.nil (w.heap.size + 1 + 1 + 1) wa
 have P0:=ReadV.start (h.step ba)
 have HFL:Hid (∀ g∈F,g < w.heap.size):=hide (fun g hg=>HLT g hg)
 have HUS:=hide hus
 have HB0:=hide ba
 clear h hus ba hsum
 go_enter Tryz.func17,Tryz.ntmps17
 have hl1:w.heap.size + 3≤wa.heap.size:=by omega
 obtain ⟨F1,l1⟩:=P0.call (p:=0) (by rfl) (v:=.slice A0 m0 c0) (by rw [← HUS.out]; rfl)
 have call1:=dtoObjS x.objs _ F1 wa l1 (by omega)
 have cc1:=bx0.cell (j:=0) (u:=.slice A0 m0 c0) (by rw [← HUS.out]; rfl)
 have CL1:=hide call1
 have PP1:=hide P0
 have BX1:=hide bx0
 have BR1:=hide br0
 have BO1:=hide bo0
 have LL1:=hide L0
 have FR1:=hide fr0
 clear call1 l1 P0 bx0 br0 bo0 L0 fr0
 go_wp2_with fail
 try rw [hwa]
 refine CL1.out.mono ?_
 rintro e w1 ⟨v1,J1,rfl,k1,f1,b1⟩
 obtain ⟨X1,y1,z1,rfl⟩:∃ X y z,v1=.slice X y z:=by obtain ⟨X,z,e,_,_⟩:=k1.form; exact ⟨_,_,_,e⟩
 have hgl1:=b1.size
 obtain ⟨W1,hW1⟩:∃ W',w1.setCell ⟨w.heap.size + 1 + 1,0,none⟩ (.slice X1 y1 z1)=W':=⟨_,rfl⟩
 obtain ⟨L1,fr1,hb1,hz1,bu1⟩:=filled LL1.out FR1.out HB0.out (by omega) (by omega) b1 (lies_one k1) f1 0 hW1
 have bxs1:=BX1.out.step b1
 have brs1:=BR1.out.step b1
 have bos1:=BO1.out.step b1
 have bx1:=bxs1.keep (bu1.block _ bxs1.lt (by simp <;> omega))
 have br1:=brs1.keep (bu1.block _ brs1.lt (by simp))
 have bo1:Box W1 (w.heap.size + 1 + 1) 32 [.slice X1 y1 z1,.slice none 0 0,.slice none 0 0]:=by have:=bos1.set 0 (.slice X1 y1 z1); rw [hW1] at this; exact this
 have P1:ReadV W1 _ _ us F:=⟨(PP1.out.step b1).next.lies.but bu1 (fun g hg he=>by have:=List.mem_singleton.1 he; have:=HFL.out g hg; omega)⟩
 have HB1:=hide hb1
 have HW1:=hide hW1
 clear CL1 PP1 BX1 BR1 BO1 LL1 FR1 k1 f1 b1 bu1 hb1 hW1 bxs1 cc1 hwa
 have cs1:w1.cell? ⟨w.heap.size + 1 + 1,0,none⟩=some (.slice none 0 0):=bos1.cell rfl
 have ct1:=bos1.fz 0
 clear bos1 brs1
 have hl2:w.heap.size + 3≤W1.heap.size:=by omega
 obtain ⟨F2,l2⟩:=P1.call (p:=1) (by simp only [List.length_append,List.length_cons,List.length_nil]) (v:=.slice A1 m1 c1) (by rw [← HUS.out]; rfl)
 have call2:=dtoNames x.roots _ F2 W1 l2 (by omega)
 have cc2:=bx1.cell (j:=1) (u:=.slice A1 m1 c1) (by rw [← HUS.out]; rfl)
 rw [← HW1.out,World.cell?_setCell_other _ _ _ _ (by intro e; injection e with e1 e2; omega)] at cc2
 have CL2:=hide call2
 have PP2:=hide P1
 have BX2:=hide bx1
 have BR2:=hide br1
 have BO2:=hide bo1
 have LL2:=hide L1
 have FR2:=hide fr1
 clear call2 l2 P1 bx1 br1 bo1 L1 fr1
 go_wp2_with fail
 rw [HW1.out]
 refine CL2.out.mono ?_
 rintro e w2 ⟨v2,J2,rfl,k2,f2,b2⟩
 obtain ⟨X2,y2,z2,rfl⟩:∃ X y z,v2=.slice X y z:=by obtain ⟨X,z,e,_,_⟩:=k2.form; exact ⟨_,_,_,e⟩
 have hgl2:=b2.size
 obtain ⟨W2,hW2⟩:∃ W',w2.setCell ⟨w.heap.size + 1 + 1,1,none⟩ (.slice X2 y2 z2)=W':=⟨_,rfl⟩
 obtain ⟨L2,fr2,hb2,hz2,bu2⟩:=filled LL2.out FR2.out HB1.out (by omega) (by omega) b2 (lies_one k2) f2 1 hW2
 have bxs2:=BX2.out.step b2
 have brs2:=BR2.out.step b2
 have bos2:=BO2.out.step b2
 have bx2:=bxs2.keep (bu2.block _ bxs2.lt (by simp <;> omega))
 have br2:=brs2.keep (bu2.block _ brs2.lt (by simp))
 have bo2:Box W2 (w.heap.size + 1 + 1) 32 [.slice X1 y1 z1,.slice X2 y2 z2,.slice none 0 0]:=by have:=bos2.set 1 (.slice X2 y2 z2); rw [hW2] at this; exact this
 have P2:ReadV W2 _ _ us F:=⟨(PP2.out.step b2).next.lies.but bu2 (fun g hg he=>by have:=List.mem_singleton.1 he; have:=HFL.out g hg; omega)⟩
 have HB2:=hide hb2
 have HW2:=hide hW2
 clear CL2 PP2 BX2 BR2 BO2 LL2 FR2 k2 f2 b2 bu2 hb2 hW2 bxs2 cs1 ct1 cc2 HW1
 have cs2:w2.cell? ⟨w.heap.size + 1 + 1,1,none⟩=some (.slice none 0 0):=bos2.cell rfl
 have ct2:=bos2.fz 1
 clear bos2 brs2
 have hl3:w.heap.size + 3≤W2.heap.size:=by omega
 obtain ⟨F3,l3⟩:=P2.call (p:=2) (by simp only [List.length_append,List.length_cons,List.length_nil]) (v:=.slice A2 m2 c2) (by rw [← HUS.out]; rfl)
 have call3:=dtoRealS x.reals _ F3 W2 l3 (by omega)
 have cc3:=bx2.cell (j:=2) (u:=.slice A2 m2 c2) (by rw [← HUS.out]; rfl)
 rw [← HW2.out,World.cell?_setCell_other _ _ _ _ (by intro e; injection e with e1 e2; omega)] at cc3
 have CL3:=hide call3
 have PP3:=hide P2
 have BX3:=hide bx2
 have BR3:=hide br2
 have BO3:=hide bo2
 have LL3:=hide L2
 have FR3:=hide fr2
 clear call3 l3 P2 bx2 br2 bo2 L2 fr2
 go_wp2_with fail
 rw [HW2.out]
 refine CL3.out.mono ?_
 rintro e w3 ⟨v3,J3,rfl,k3,f3,b3⟩
 obtain ⟨X3,y3,z3,rfl⟩:∃ X y z,v3=.slice X y z:=by obtain ⟨X,z,e,_,_⟩:=k3.form; exact ⟨_,_,_,e⟩
 have hgl3:=b3.size
 obtain ⟨W3,hW3⟩:∃ W',w3.setCell ⟨w.heap.size + 1 + 1,2,none⟩ (.slice X3 y3 z3)=W':=⟨_,rfl⟩
 obtain ⟨L3,fr3,hb3,hz3,bu3⟩:=filled LL3.out FR3.out HB2.out (by omega) (by omega) b3 (lies_one k3) f3 2 hW3
 have bxs3:=BX3.out.step b3
 have brs3:=BR3.out.step b3
 have bos3:=BO3.out.step b3
 have bx3:=bxs3.keep (bu3.block _ bxs3.lt (by simp <;> omega))
 have br3:=brs3.keep (bu3.block _ brs3.lt (by simp))
 have bo3:Box W3 (w.heap.size + 1 + 1) 32 [.slice X1 y1 z1,.slice X2 y2 z2,.slice X3 y3 z3]:=by have:=bos3.set 2 (.slice X3 y3 z3); rw [hW3] at this; exact this
 have P3:ReadV W3 _ _ us F:=⟨(PP3.out.step b3).next.lies.but bu3 (fun g hg he=>by have:=List.mem_singleton.1 he; have:=HFL.out g hg; omega)⟩
 have HB3:=hide hb3
 have HW3:=hide hW3
 clear CL3 PP3 BX3 BR3 BO3 LL3 FR3 k3 f3 b3 bu3 hb3 hW3 bxs3 cs2 ct2 cc3 HW2
 have cs3:w3.cell? ⟨w.heap.size + 1 + 1,2,none⟩=some (.slice none 0 0):=bos3.cell rfl
 have ct3:=bos3.fz 2
 clear bos3 brs3
 have RGE:Hid (W3.rangeAt (w.heap.size + 1 + 1) 0 [.slice X1 y1 z1,.slice X2 y2 z2,.slice X3 y3 z3]):=hide bo3.range
 have THE:Hid (W3.there (w.heap.size + 1) 0 3):=hide (br3.there (by simp))
 have ONE:Hid ((#[.slice X1 y1 z1,.slice X2 y2 z2,.slice X3 y3 z3]:Array Value).all (·.oneCell')=true):=hide (by simp [Value.oneCell'])
 have FIN:Hid (∀ WZ,W3.setCells (w.heap.size + 1) 0 [.slice X1 y1 z1,.slice X2 y2 z2,.slice X3 y3 z3]=WZ→∃ us' F',(Ending.returned (.agg #[.slice X1 y1 z1,.slice X2 y2 z2,.slice X3 y3 z3])=.returned (.agg us'.toArray))∧Lies WZ (seqOf 9 DObj.cells x.objs :: (Go.Proofs.YtgaadpkefncnmaaGreatDoor.names x.roots :: (seqOf 3 DReal.cells x.reals :: []))) us' F'∧Fresh w.heap.size WZ F'∧Below w.heap.size w WZ):=hide (by
  intro WZ hWZ
  have bu:=but_sets W3 (w.heap.size + 1) [.slice X1 y1 z1,.slice X2 y2 z2,.slice X3 y3 z3] 0
  rw [hWZ] at bu
  obtain ⟨FF,LL,ff⟩:∃ FF,Lies W3 _ _ FF∧Fresh _ W3 FF:=⟨_,L3,fr3⟩
  have h1:=LL.but bu (fun g hg he=>by have:=ff.low g hg; have:=List.mem_singleton.1 he; omega)
  simp only [List.nil_append,List.cons_append,List.append_assoc] at h1
  have h2:Fresh w.heap.size WZ FF:=⟨ff.nodup,fun g hg=>by have:=ff.low g hg; omega,ff.live.but bu (fun g hg he=>by have:=ff.low g hg; have:=List.mem_singleton.1 he; omega)⟩
  have h3:Below w.heap.size w WZ:=bu.below HB3.out (fun g hg=>by have:=List.mem_singleton.1 hg; omega) HB3.out.size
  exact ⟨[.slice X1 y1 z1,.slice X2 y2 z2,.slice X3 y3 z3],FF,rfl,h1,h2,h3⟩)
 have HBR:=hide (br3.sets (vs:=[.slice X1 y1 z1,.slice X2 y2 z2,.slice X3 y3 z3]) (o:=0))
 clear L3 fr3 P3 bx3 br3 bo3
 go_wp2_with (first
  | ((with_reducible refine at_load 32 ?_); rw [HW3.out]; refine wpList_load_mid rfl _ _ rfl (w.heap.size + 1 + 1) 0 rfl [.slice X1 y1 z1,.slice X2 y2 z2,.slice X3 y3 z3] _ RGE.out Tryz.underlying32 rfl (by kernel_rfl) ?_)
  | ((with_reducible refine at_store 32 ?_); refine wpList_store_mid rfl _ _ _ rfl (w.heap.size + 1) 0 #[.slice X1 y1 z1,.slice X2 y2 z2,.slice X3 y3 z3] rfl rfl THE.out (by kernel_rfl) ONE.out ?_))
 exact bodyPost_ret (results_cell_row rfl _ _ (w.heap.size + 1) 32 #[.slice X1 y1 z1,.slice X2 y2 z2,.slice X3 y3 z3] (0,0) _ rfl HBR.out Tryz.underlying32 rfl (by kernel_rfl)) rfl (FIN.out _ rfl)
theorem dtoStore (x:DStore):ToA Tryz.prog 17 x.cells:=dtoStore0 x
end Go.Proofs.YtgaadpkefncnmaaGreatDoor
