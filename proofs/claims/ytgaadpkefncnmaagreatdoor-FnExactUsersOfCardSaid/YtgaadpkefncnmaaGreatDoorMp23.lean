/-
  Parts of the proof: DSMark.
-/
import Derived.Test.YtgaadpkefncnmaaGreatDoorMp1
import Derived.Test.YtgaadpkefncnmaaGreatDoorMp0
/-
  The laws' helpers 'mark' over structs and their rows.
-/
namespace Go.Proofs.YtgaadpkefncnmaaGreatDoor
open Go.RowKit
set_option linter.unusedVariables false
set_option linter.unusedSimpArgs false
set_option maxRecDepth 20000 in
set_option maxHeartbeats 1600000 in
theorem dmarkRealS (l:List DReal):MarkC Tryz.prog 69 (seqOf 3 DReal.cells l):=by
 unfold seqOf
 intro v F s w h hnd hlv hs0 hs1
 have h0:=h
 obtain ⟨F2,hF,hm0⟩:=MarkL.start h hnd hlv s
 rw [Lie] at h
 obtain ⟨_,us,F3,⟨A,c,hv,hc1,hc2,hul,_⟩,_,_⟩:=h
 obtain ⟨N,hN⟩:∃ N,l.length=N:=⟨_,rfl⟩
 obtain ⟨g,hg⟩:∃ g:DReal→List Cel,DReal.cells=g:=⟨_,rfl⟩
 have hgx:∀ x,g x = [raw x.drv,raw x.out,raw x.path]:=fun x=>by subst hg; exact x.cells_eq
 rw [hg] at hm0 h0 hs1 ⊢
 rw [Cel.cnt] at hs1 ⊢
 rw [hN] at hv hc1 hm0 h0 ⊢
 obtain ⟨S,hS⟩:∃ S,cnts (cells g l)=S:=⟨_,rfl⟩
 rw [hS] at hs1 ⊢
 unfold maxLen at hc2
 have STOP:=fun wr (hm:MarkL w v s F2 N (cells g l) [] wr)=>MarkL.stop h0 hF hlv hm
 have HST:=hide STOP
 have HS:=hide hS
 have HN:=hide hN
 have HG:=hide hgx
 have HM0:=hide hm0
 subst hv
 clear STOP hS hN hg hgx hm0 h0 hul hnd hlv hF
 go_enter Tryz.func69,Tryz.ntmps69
 go_wp2
 go_loopw [1,5] (fun q i wr=>∃ j z:Nat,j≤N∧i=.int .i64 j∧q=.int .i64 (s + z)∧z≤S∧Hid (cnts (cells g (l.take j))=z∧MarkL w (.slice A N c) s F2 N (cells g (l.take j)) (cells g (l.drop j)) wr))
  (fun _ i _=>N - (intOf i).toNat)
 case atStart=>exact ⟨0,0,Nat.zero_le _,rfl,by go_num,Nat.zero_le _,hide ⟨by simp [cells,cnts],HM0.out⟩⟩
 case round =>
  obtain ⟨j,z,hj,rfl,rfl,hzS,HR⟩:=hrel
  by_cases hlt:j < N
  ·obtain ⟨hz,hml⟩:=HR.out
   obtain ⟨b,off,c',us',hv,P0⟩:=hml.2 (by omega)
   injection hv with hv1 _ hv2
   subst hv1
   have hjn:j < l.length:=by rw [HN.out]; exact hlt
   have htk:=cells_take g hjn
   have hlen:j * 3=(cells g (l.take j)).length:=by rw [cells_len (sz:=3) (by intro x; rw [HG.out]; rfl),List.length_take]; omega
   rw [cells_drop g hjn] at P0
   obtain ⟨x,hxe⟩:∃ x,l[j]=x:=⟨_,rfl⟩
   have hmem:x∈l:=hxe ▸ List.getElem_mem hjn
   rw [hxe,HG.out x] at P0 htk
   have hz2:=congrArg cnts htk
   rw [cnts_app,hz] at hz2
   have hz3:cnts (cells g (l.take (j + 1)))≤S:=by
    rw [← HS.out,cells_split g l (j + 1),cnts_app]; omega
   rw [hz2] at hz3
   simp only [cnts] at hz3 hz2
   obtain ⟨D0,hD0⟩:∃ D,(raw x.drv).cnt=D:=⟨_,rfl⟩
   obtain ⟨D1,hD1⟩:∃ D,(raw x.out).cnt=D:=⟨_,rfl⟩
   obtain ⟨D2,hD2⟩:∃ D,(raw x.path).cnt=D:=⟨_,rfl⟩
   simp only [hD0,hD1,hD2] at hz2 hz3
   simp only [List.cons_append,List.nil_append] at P0
   have HTK:=hide htk
   have HZ2:=hide hz2
   have HLEN:=hide hlen
   have HZ:=hide hz
   have HD0:=hide hD0
   have HD1:=hide hD1
   have HD2:=hide hD2
   have k1:(j:Int) < (N:Int):=by omega
   clear htk hz2 hlen hz hml HR hjn hv2 hxe hD0 hD1 hD2
   obtain ⟨v0,F0,c0,l0,n0,lv0,fin0⟩:=P0.call (p:=j * 3) HLEN.out (y:=s + z) (by rw [HZ.out])
   try simp only [← Nat.add_assoc] at c0
   have call0:=(dmarkRaw x.drv) v0 F0 (s + z) wr l0 n0 lv0 (by omega) (by rw [HD0.out]; omega)
   rw [HD0.out] at call0
   have FN0:=hide fin0
   have CL0:=hide call0
   clear fin0 call0 P0 l0 n0 lv0
   go_wp2_with fail
   refine CL0.out.mono ?_
   rintro e W0 ⟨rfl,m0,lv0,b0⟩
   have P1:=FN0.out W0 m0 lv0 b0
   clear FN0 CL0 c0 m0 lv0 b0
   obtain ⟨v1,F1,c1,l1,n1,lv1,fin1⟩:=P1.call (p:=j * 3 + 1) (by simp only [List.length_append,List.length_cons,List.length_nil]; have:=HLEN.out; omega) (y:=s + z + D0) (by simp only [cnts_app,cnts,HD0.out]; have:=HZ.out; have:=HZ.out; omega)
   try simp only [← Nat.add_assoc] at c1
   have call1:=(dmarkRaw x.out) v1 F1 (s + z + D0) W0 l1 n1 lv1 (by omega) (by rw [HD1.out]; omega)
   rw [HD1.out] at call1
   have FN1:=hide fin1
   have CL1:=hide call1
   clear fin1 call1 P1 l1 n1 lv1
   go_wp2_with fail
   refine CL1.out.mono ?_
   rintro e W1 ⟨rfl,m1,lv1,b1⟩
   have P2:=FN1.out W1 m1 lv1 b1
   clear FN1 CL1 c1 m1 lv1 b1
   obtain ⟨v2,F2,c2,l2,n2,lv2,fin2⟩:=P2.call (p:=j * 3 + 2) (by simp only [List.length_append,List.length_cons,List.length_nil]; have:=HLEN.out; omega) (y:=s + z + D0 + D1) (by simp only [cnts_app,cnts,HD0.out,HD1.out]; have:=HZ.out; have:=HZ.out; omega)
   try simp only [← Nat.add_assoc] at c2
   have call2:=(dmarkRaw x.path) v2 F2 (s + z + D0 + D1) W1 l2 n2 lv2 (by omega) (by rw [HD2.out]; omega)
   rw [HD2.out] at call2
   have FN2:=hide fin2
   have CL2:=hide call2
   clear fin2 call2 P2 l2 n2 lv2
   go_wp2_with fail
   refine CL2.out.mono ?_
   rintro e W2 ⟨rfl,m2,lv2,b2⟩
   have P3:=FN2.out W2 m2 lv2 b2
   clear FN2 CL2 c2 m2 lv2 b2
   have fin:=MarkL.round (n:=N) (by omega) rfl P3 (c:=c)
   try simp only [List.append_assoc,List.cons_append,List.nil_append] at fin
   rw [← HTK.out] at fin
   have FIN:=hide (And.intro (HZ2.out.trans (show _=z + (D0 + D1 + D2) by omega)) fin)
   clear fin P3 HTK HZ2 HLEN HZ
   go_wp2_with fail
   go_roundw
   case rel=>exact ⟨j + 1,z + (D0 + D1 + D2),by omega,by go_num,by go_num,by omega,FIN⟩
   case measure=>simp [intOf]; omega
  ·obtain rfl:j=N:=by omega
   obtain ⟨hz,hml⟩:=HR.out
   rw [List.take_of_length_le (by rw [HN.out]; omega)] at hz hml
   rw [List.drop_eq_nil_of_le (by rw [HN.out]; omega)] at hml
   rw [HS.out] at hz
   subst hz
   have FIN:=hide (HST.out wr hml)
   clear hml HR
   go_wp2
   go_ret
   exact ⟨rfl,FIN.out⟩
set_option maxRecDepth 20000 in
set_option maxHeartbeats 1600000 in
theorem dmarkObjS (l:List DObj):MarkC Tryz.prog 68 (seqOf 9 DObj.cells l):=by
 unfold seqOf
 intro v F s w h hnd hlv hs0 hs1
 have h0:=h
 obtain ⟨F2,hF,hm0⟩:=MarkL.start h hnd hlv s
 rw [Lie] at h
 obtain ⟨_,us,F3,⟨A,c,hv,hc1,hc2,hul,_⟩,_,_⟩:=h
 obtain ⟨N,hN⟩:∃ N,l.length=N:=⟨_,rfl⟩
 obtain ⟨g,hg⟩:∃ g:DObj→List Cel,DObj.cells=g:=⟨_,rfl⟩
 have hgx:∀ x,g x = [raw x.name,.num .i64 x.kind,.num .i64 x.tree.kind,raw x.tree.data,Go.Proofs.YtgaadpkefncnmaaGreatDoor.names x.tree.names,seqOf 4 T.cells x.tree.kids,Go.Proofs.YtgaadpkefncnmaaGreatDoor.names x.refs,raw x.frm,raw x.out]:=fun x=>by subst hg; exact x.cells_eq
 rw [hg] at hm0 h0 hs1 ⊢
 rw [Cel.cnt] at hs1 ⊢
 rw [hN] at hv hc1 hm0 h0 ⊢
 obtain ⟨S,hS⟩:∃ S,cnts (cells g l)=S:=⟨_,rfl⟩
 rw [hS] at hs1 ⊢
 unfold maxLen at hc2
 have STOP:=fun wr (hm:MarkL w v s F2 N (cells g l) [] wr)=>MarkL.stop h0 hF hlv hm
 have HST:=hide STOP
 have HS:=hide hS
 have HN:=hide hN
 have HG:=hide hgx
 have HM0:=hide hm0
 subst hv
 clear STOP hS hN hg hgx hm0 h0 hul hnd hlv hF
 go_enter Tryz.func68,Tryz.ntmps68
 go_wp2
 go_loopw [1,5] (fun q i wr=>∃ j z:Nat,j≤N∧i=.int .i64 j∧q=.int .i64 (s + z)∧z≤S∧Hid (cnts (cells g (l.take j))=z∧MarkL w (.slice A N c) s F2 N (cells g (l.take j)) (cells g (l.drop j)) wr))
  (fun _ i _=>N - (intOf i).toNat)
 case atStart=>exact ⟨0,0,Nat.zero_le _,rfl,by go_num,Nat.zero_le _,hide ⟨by simp [cells,cnts],HM0.out⟩⟩
 case round =>
  obtain ⟨j,z,hj,rfl,rfl,hzS,HR⟩:=hrel
  by_cases hlt:j < N
  ·obtain ⟨hz,hml⟩:=HR.out
   obtain ⟨b,off,c',us',hv,P0⟩:=hml.2 (by omega)
   injection hv with hv1 _ hv2
   subst hv1
   have hjn:j < l.length:=by rw [HN.out]; exact hlt
   have htk:=cells_take g hjn
   have hlen:j * 9=(cells g (l.take j)).length:=by rw [cells_len (sz:=9) (by intro x; rw [HG.out]; rfl),List.length_take]; omega
   rw [cells_drop g hjn] at P0
   obtain ⟨x,hxe⟩:∃ x,l[j]=x:=⟨_,rfl⟩
   have hmem:x∈l:=hxe ▸ List.getElem_mem hjn
   rw [hxe,HG.out x] at P0 htk
   have hz2:=congrArg cnts htk
   rw [cnts_app,hz] at hz2
   have hz3:cnts (cells g (l.take (j + 1)))≤S:=by
    rw [← HS.out,cells_split g l (j + 1),cnts_app]; omega
   rw [hz2] at hz3
   simp only [cnts] at hz3 hz2
   obtain ⟨D0,hD0⟩:∃ D,(raw x.name).cnt=D:=⟨_,rfl⟩
   obtain ⟨D3,hD3⟩:∃ D,(raw x.tree.data).cnt=D:=⟨_,rfl⟩
   obtain ⟨D4,hD4⟩:∃ D,(Go.Proofs.YtgaadpkefncnmaaGreatDoor.names x.tree.names).cnt=D:=⟨_,rfl⟩
   obtain ⟨D5,hD5⟩:∃ D,(seqOf 4 T.cells x.tree.kids).cnt=D:=⟨_,rfl⟩
   obtain ⟨D6,hD6⟩:∃ D,(Go.Proofs.YtgaadpkefncnmaaGreatDoor.names x.refs).cnt=D:=⟨_,rfl⟩
   obtain ⟨D7,hD7⟩:∃ D,(raw x.frm).cnt=D:=⟨_,rfl⟩
   obtain ⟨D8,hD8⟩:∃ D,(raw x.out).cnt=D:=⟨_,rfl⟩
   simp only [hD0,hD3,hD4,hD5,hD6,hD7,hD8] at hz2 hz3
   simp only [num_cnt] at hz2 hz3
   simp only [List.cons_append,List.nil_append] at P0
   have HTK:=hide htk
   have HZ2:=hide hz2
   have HLEN:=hide hlen
   have HZ:=hide hz
   have HD0:=hide hD0
   have HD3:=hide hD3
   have HD4:=hide hD4
   have HD5:=hide hD5
   have HD6:=hide hD6
   have HD7:=hide hD7
   have HD8:=hide hD8
   have k1:(j:Int) < (N:Int):=by omega
   clear htk hz2 hlen hz hml HR hjn hv2 hxe hD0 hD3 hD4 hD5 hD6 hD7 hD8
   obtain ⟨v0,F0,c0,l0,n0,lv0,fin0⟩:=P0.call (p:=j * 9) HLEN.out (y:=s + z) (by rw [HZ.out])
   try simp only [← Nat.add_assoc] at c0
   have call0:=(dmarkRaw x.name) v0 F0 (s + z) wr l0 n0 lv0 (by omega) (by rw [HD0.out]; omega)
   rw [HD0.out] at call0
   have FN0:=hide fin0
   have CL0:=hide call0
   clear fin0 call0 P0 l0 n0 lv0
   go_wp2_with fail
   refine CL0.out.mono ?_
   rintro e W0 ⟨rfl,m0,lv0,b0⟩
   have P1:=FN0.out W0 m0 lv0 b0
   clear FN0 CL0 c0 m0 lv0 b0
   obtain ⟨c1,f1,us1,P2⟩:=P1.num (p:=j * 9 + 1) (by simp only [List.length_append,List.length_cons,List.length_nil]; have:=HLEN.out; omega) (y:=s + z + D0) (by rw [mk1_i64]; simp only [cnts_app,cnts,HD0.out]; have:=HZ.out; omega)
   try simp only [← Nat.add_assoc] at c1 f1 P2
   obtain ⟨W1,hW1⟩:∃ W,W0.setCell ⟨b,off + j * 9 + 1,none⟩ (.int .i64 (s + z + D0))=W:=⟨_,rfl⟩
   rw [hW1] at P2
   have HW1:=hide hW1
   clear hW1 P1
   obtain ⟨c2,f2,us2,P3⟩:=P2.num (p:=j * 9 + 2) (by simp only [List.length_append,List.length_cons,List.length_nil]; have:=HLEN.out; omega) (y:=s + z + D0 + 1) (by rw [mk1_i64]; simp only [cnts_app,cnts,num_cnt,HD0.out]; have:=HZ.out; omega)
   try simp only [← Nat.add_assoc] at c2 f2 P3
   rw [← HW1.out,World.cell?_setCell_other _ _ _ _ (by intro e; injection e with _ e2; omega)] at c2
   rw [← HW1.out,World.frozen?_setCell] at f2
   obtain ⟨W2,hW2⟩:∃ W,W1.setCell ⟨b,off + j * 9 + 2,none⟩ (.int .i64 (s + z + D0 + 1))=W:=⟨_,rfl⟩
   rw [hW2] at P3
   have HW2:=hide hW2
   clear hW2 P2
   obtain ⟨v3,F3,c3,l3,n3,lv3,fin3⟩:=P3.call (p:=j * 9 + 3) (by simp only [List.length_append,List.length_cons,List.length_nil]; have:=HLEN.out; omega) (y:=s + z + D0 + 1 + 1) (by simp only [cnts_app,cnts,num_cnt,HD0.out]; have:=HZ.out; have:=HZ.out; omega)
   try simp only [← Nat.add_assoc] at c3
   rw [← HW2.out,World.cell?_setCell_other _ _ _ _ (by intro e; injection e with _ e2; omega)] at c3
   rw [← HW1.out,World.cell?_setCell_other _ _ _ _ (by intro e; injection e with _ e2; omega)] at c3
   have call3:=(dmarkRaw x.tree.data) v3 F3 (s + z + D0 + 1 + 1) W2 l3 n3 lv3 (by omega) (by rw [HD3.out]; omega)
   rw [HD3.out] at call3
   have FN3:=hide fin3
   have CL3:=hide call3
   clear fin3 call3 P3 l3 n3 lv3
   go_wp2_with fail
   rw [HW1.out]
   rw [HW2.out]
   refine CL3.out.mono ?_
   rintro e W3 ⟨rfl,m3,lv3,b3⟩
   have P4:=FN3.out W3 m3 lv3 b3
   clear FN3 CL3 c3 m3 lv3 b3 c1 f1 HW1 c2 f2 HW2
   obtain ⟨v4,F4,c4,l4,n4,lv4,fin4⟩:=P4.call (p:=j * 9 + 4) (by simp only [List.length_append,List.length_cons,List.length_nil]; have:=HLEN.out; omega) (y:=s + z + D0 + 1 + 1 + D3) (by simp only [cnts_app,cnts,num_cnt,HD0.out,HD3.out]; have:=HZ.out; have:=HZ.out; omega)
   try simp only [← Nat.add_assoc] at c4
   have call4:=(dmarkNames x.tree.names) v4 F4 (s + z + D0 + 1 + 1 + D3) W3 l4 n4 lv4 (by omega) (by rw [HD4.out]; omega)
   rw [HD4.out] at call4
   have FN4:=hide fin4
   have CL4:=hide call4
   clear fin4 call4 P4 l4 n4 lv4
   go_wp2_with fail
   refine CL4.out.mono ?_
   rintro e W4 ⟨rfl,m4,lv4,b4⟩
   have P5:=FN4.out W4 m4 lv4 b4
   clear FN4 CL4 c4 m4 lv4 b4
   obtain ⟨v5,F5,c5,l5,n5,lv5,fin5⟩:=P5.call (p:=j * 9 + 5) (by simp only [List.length_append,List.length_cons,List.length_nil]; have:=HLEN.out; omega) (y:=s + z + D0 + 1 + 1 + D3 + D4) (by simp only [cnts_app,cnts,num_cnt,HD0.out,HD3.out,HD4.out]; have:=HZ.out; have:=HZ.out; omega)
   try simp only [← Nat.add_assoc] at c5
   have call5:=(dmarkTreeL x.tree.kids) v5 F5 (s + z + D0 + 1 + 1 + D3 + D4) W4 l5 n5 lv5 (by omega) (by rw [HD5.out]; omega)
   rw [HD5.out] at call5
   have FN5:=hide fin5
   have CL5:=hide call5
   clear fin5 call5 P5 l5 n5 lv5
   go_wp2_with fail
   refine CL5.out.mono ?_
   rintro e W5 ⟨rfl,m5,lv5,b5⟩
   have P6:=FN5.out W5 m5 lv5 b5
   clear FN5 CL5 c5 m5 lv5 b5
   obtain ⟨v6,F6,c6,l6,n6,lv6,fin6⟩:=P6.call (p:=j * 9 + 6) (by simp only [List.length_append,List.length_cons,List.length_nil]; have:=HLEN.out; omega) (y:=s + z + D0 + 1 + 1 + D3 + D4 + D5) (by simp only [cnts_app,cnts,num_cnt,HD0.out,HD3.out,HD4.out,HD5.out]; have:=HZ.out; have:=HZ.out; omega)
   try simp only [← Nat.add_assoc] at c6
   have call6:=(dmarkNames x.refs) v6 F6 (s + z + D0 + 1 + 1 + D3 + D4 + D5) W5 l6 n6 lv6 (by omega) (by rw [HD6.out]; omega)
   rw [HD6.out] at call6
   have FN6:=hide fin6
   have CL6:=hide call6
   clear fin6 call6 P6 l6 n6 lv6
   go_wp2_with fail
   refine CL6.out.mono ?_
   rintro e W6 ⟨rfl,m6,lv6,b6⟩
   have P7:=FN6.out W6 m6 lv6 b6
   clear FN6 CL6 c6 m6 lv6 b6
   obtain ⟨v7,F7,c7,l7,n7,lv7,fin7⟩:=P7.call (p:=j * 9 + 7) (by simp only [List.length_append,List.length_cons,List.length_nil]; have:=HLEN.out; omega) (y:=s + z + D0 + 1 + 1 + D3 + D4 + D5 + D6) (by simp only [cnts_app,cnts,num_cnt,HD0.out,HD3.out,HD4.out,HD5.out,HD6.out]; have:=HZ.out; have:=HZ.out; omega)
   try simp only [← Nat.add_assoc] at c7
   have call7:=(dmarkRaw x.frm) v7 F7 (s + z + D0 + 1 + 1 + D3 + D4 + D5 + D6) W6 l7 n7 lv7 (by omega) (by rw [HD7.out]; omega)
   rw [HD7.out] at call7
   have FN7:=hide fin7
   have CL7:=hide call7
   clear fin7 call7 P7 l7 n7 lv7
   go_wp2_with fail
   refine CL7.out.mono ?_
   rintro e W7 ⟨rfl,m7,lv7,b7⟩
   have P8:=FN7.out W7 m7 lv7 b7
   clear FN7 CL7 c7 m7 lv7 b7
   obtain ⟨v8,F8,c8,l8,n8,lv8,fin8⟩:=P8.call (p:=j * 9 + 8) (by simp only [List.length_append,List.length_cons,List.length_nil]; have:=HLEN.out; omega) (y:=s + z + D0 + 1 + 1 + D3 + D4 + D5 + D6 + D7) (by simp only [cnts_app,cnts,num_cnt,HD0.out,HD3.out,HD4.out,HD5.out,HD6.out,HD7.out]; have:=HZ.out; have:=HZ.out; omega)
   try simp only [← Nat.add_assoc] at c8
   have call8:=(dmarkRaw x.out) v8 F8 (s + z + D0 + 1 + 1 + D3 + D4 + D5 + D6 + D7) W7 l8 n8 lv8 (by omega) (by rw [HD8.out]; omega)
   rw [HD8.out] at call8
   have FN8:=hide fin8
   have CL8:=hide call8
   clear fin8 call8 P8 l8 n8 lv8
   go_wp2_with fail
   refine CL8.out.mono ?_
   rintro e W8 ⟨rfl,m8,lv8,b8⟩
   have P9:=FN8.out W8 m8 lv8 b8
   clear FN8 CL8 c8 m8 lv8 b8
   have fin:=MarkL.round (n:=N) (by omega) rfl P9 (c:=c)
   try simp only [List.append_assoc,List.cons_append,List.nil_append] at fin
   rw [← HTK.out] at fin
   have FIN:=hide (And.intro (HZ2.out.trans (show _=z + (D0 + 1 + 1 + D3 + D4 + D5 + D6 + D7 + D8) by omega)) fin)
   clear fin P9 HTK HZ2 HLEN HZ
   go_wp2_with fail
   go_roundw
   case rel=>exact ⟨j + 1,z + (D0 + 1 + 1 + D3 + D4 + D5 + D6 + D7 + D8),by omega,by go_num,by go_num,by omega,FIN⟩
   case measure=>simp [intOf]; omega
  ·obtain rfl:j=N:=by omega
   obtain ⟨hz,hml⟩:=HR.out
   rw [List.take_of_length_le (by rw [HN.out]; omega)] at hz hml
   rw [List.drop_eq_nil_of_le (by rw [HN.out]; omega)] at hml
   rw [HS.out] at hz
   subst hz
   have FIN:=hide (HST.out wr hml)
   clear hml HR
   go_wp2
   go_ret
   exact ⟨rfl,FIN.out⟩
set_option maxRecDepth 20000 in
set_option maxHeartbeats 1600000 in
theorem dmarkStore (x:DStore):MarkA Tryz.prog 21 x.cells:=by
 intro us F s w h hnd hlv hs0 hs1
 have hd:=h
 rw [x.cells_eq] at hd
 obtain ⟨A0,m0,c0,r0,G0,rfl,q0⟩:=hd.seqs1
 obtain ⟨A1,m1,c1,r1,G1,rfl,q1⟩:=q0.seqs1
 obtain ⟨A2,m2,c2,r2,G2,rfl,q2⟩:=q1.seqs1
 obtain rfl:=q2.nil1
 clear q0 q1 q2
 obtain ⟨us,hus⟩:∃ us:List Value,[.slice A0 m0 c0,.slice A1 m1 c1,.slice A2 m2 c2]=us:=⟨_,rfl⟩
 obtain ⟨wa,hwa⟩:∃ wa,w.alloc (.cells #[.slice A0 m0 c0,.slice A1 m1 c1,.slice A2 m2 c2] 32)=wa:=⟨_,rfl⟩
 have ba:Below w.heap.size w wa:=by rw [← hwa]; exact (Below.refl _ _).alloc (Nat.le_refl _) _
 have bx0:Box wa w.heap.size 32 us:=by rw [← hwa,← hus]; exact Box.new w _ _
 have hnf:w.heap.size∉F:=fun hg=>Nat.lt_irrefl _ (h.lt _ hg)
 have hlz:wa.heap.size=w.heap.size + 1:=by rw [← hwa]; simp
 rw [hus] at h
 obtain ⟨D0,hD0⟩:∃ D,(seqOf 9 DObj.cells x.objs).cnt=D:=⟨_,rfl⟩
 have hE0:(seqOf 9 DObj.cells x.objs).cnt0=D0:=hD0
 obtain ⟨D1,hD1⟩:∃ D,(Go.Proofs.YtgaadpkefncnmaaGreatDoor.names x.roots).cnt=D:=⟨_,rfl⟩
 have hE1:(Go.Proofs.YtgaadpkefncnmaaGreatDoor.names x.roots).cnt0=D1:=hD1
 obtain ⟨D2,hD2⟩:∃ D,(seqOf 3 DReal.cells x.reals).cnt=D:=⟨_,rfl⟩
 have hE2:(seqOf 3 DReal.cells x.reals).cnt0=D2:=hD2
 have hsum:cnts0 x.cells=D0 + D1 + D2:=by
  rw [x.cells_top]
  simp only [cnts0,hE0,hE1,hE2]
  omega
 rw [hsum] at hs1 ⊢
 rw [x.cells_top] at h ⊢
 have P0:=MarkV.start (s:=s) (h.step ba) hnd (hlv.step ba)
 have HUS:=hide hus
 have HBA:=hide ba
 have HNF:=hide hnf
 clear h hnd hlv hus ba hnf hsum
 go_enter Tryz.func21,Tryz.ntmps21
 obtain ⟨F0,s0,l0,n0,lv0,fin0⟩:=P0.call (p:=0) (by rfl) (v:=.slice A0 m0 c0) (by rw [← HUS.out]; rfl) (y:=s) (by simp only [cnts0_app,cnts0,hE0,hE1,hE2]; omega)
 have call0:=dmarkObjS x.objs _ F0 (s) wa l0 n0 lv0 (by omega) (by rw [hD0]; omega)
 have cc0:wa.cell? ⟨w.heap.size,0,none⟩=some (.slice A0 m0 c0):=bx0.cell (by rw [← HUS.out]; rfl)
 rw [hD0] at call0
 have CL0:=hide call0
 have HS0:=hide s0
 have FN0:=hide fin0
 have BX0:=hide bx0
 clear call0 fin0 l0 n0 lv0 bx0 s0 P0
 go_wp2_with fail
 refine CL0.out.mono ?_
 rintro e W0 ⟨rfl,k0,lw0,b0⟩
 have P1:=FN0.out W0 k0 lw0 b0
 have bx1:Box W0 w.heap.size 32 us:=BX0.out.keep (b0.block _ BX0.out.lt fun hg=>HNF.out (HS0.out _ hg))
 clear FN0 CL0 k0 lw0 b0 BX0 cc0
 obtain ⟨F1,s1,l1,n1,lv1,fin1⟩:=P1.call (p:=1) (by simp only [List.length_append,List.length_cons,List.length_nil]) (v:=.slice A1 m1 c1) (by rw [← HUS.out]; rfl) (y:=s + D0) (by simp only [cnts0_app,cnts0,hE0,hE1,hE2]; omega)
 have call1:=dmarkNames x.roots _ F1 (s + D0) W0 l1 n1 lv1 (by omega) (by rw [hD1]; omega)
 have cc1:W0.cell? ⟨w.heap.size,1,none⟩=some (.slice A1 m1 c1):=bx1.cell (by rw [← HUS.out]; rfl)
 rw [hD1] at call1
 have CL1:=hide call1
 have HS1:=hide s1
 have FN1:=hide fin1
 have BX1:=hide bx1
 clear call1 fin1 l1 n1 lv1 bx1 s1 P1
 go_wp2_with fail
 refine CL1.out.mono ?_
 rintro e W1 ⟨rfl,k1,lw1,b1⟩
 have P2:=FN1.out W1 k1 lw1 b1
 have bx2:Box W1 w.heap.size 32 us:=BX1.out.keep (b1.block _ BX1.out.lt fun hg=>HNF.out (HS1.out _ hg))
 clear FN1 CL1 k1 lw1 b1 BX1 cc1
 obtain ⟨F2,s2,l2,n2,lv2,fin2⟩:=P2.call (p:=2) (by simp only [List.length_append,List.length_cons,List.length_nil]) (v:=.slice A2 m2 c2) (by rw [← HUS.out]; rfl) (y:=s + D0 + D1) (by simp only [cnts0_app,cnts0,hE0,hE1,hE2]; omega)
 have call2:=dmarkRealS x.reals _ F2 (s + D0 + D1) W1 l2 n2 lv2 (by omega) (by rw [hD2]; omega)
 have cc2:W1.cell? ⟨w.heap.size,2,none⟩=some (.slice A2 m2 c2):=bx2.cell (by rw [← HUS.out]; rfl)
 rw [hD2] at call2
 have CL2:=hide call2
 have HS2:=hide s2
 have FN2:=hide fin2
 have BX2:=hide bx2
 clear call2 fin2 l2 n2 lv2 bx2 s2 P2
 go_wp2_with fail
 refine CL2.out.mono ?_
 rintro e W2 ⟨rfl,k2,lw2,b2⟩
 have P3:=FN2.out W2 k2 lw2 b2
 have bx3:Box W2 w.heap.size 32 us:=BX2.out.keep (b2.block _ BX2.out.lt fun hg=>HNF.out (HS2.out _ hg))
 clear FN2 CL2 k2 lw2 b2 BX2 cc2
 go_wp2_with fail
 go_ret
 have fin:=P3.stop HBA.out
 rw [← HUS.out] at fin
 simp only [List.append_assoc,List.cons_append,List.nil_append] at fin
 exact ⟨ret_i64 (by omega),fin⟩
end Go.Proofs.YtgaadpkefncnmaaGreatDoor
