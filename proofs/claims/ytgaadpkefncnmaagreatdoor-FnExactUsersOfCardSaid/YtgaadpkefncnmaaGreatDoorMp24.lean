/-
  Parts of the proof: DSSz.
-/
import Derived.Test.YtgaadpkefncnmaaGreatDoorMp1
/-
  The laws' helpers 'sz' over structs and their rows.
-/
namespace Go.Proofs.YtgaadpkefncnmaaGreatDoor
open Go.RowKit
set_option linter.unusedVariables false
set_option linter.unusedSimpArgs false
set_option maxRecDepth 20000 in
set_option maxHeartbeats 1600000 in
theorem dszRaw (l:List Int):SzC Tryz.prog 107 (raw l):=by
 intro v F left w h h0 h1
 obtain ⟨A,c,hv,hc1,hc2⟩:=h.form
 have hb:(raw l).bulk=l.length:=by
  rw [raw,Cel.bulk]
  have:∀ k:List Int,bulks (k.map (Cel.num .u8))=0:=fun k=>by
   induction k with
   | nil=>rfl
   | cons x k ih=>rw [List.map_cons,bulks,ih]; rfl
  rw [this]
  rfl
 rw [hb]
 clear hb h
 generalize l.length=N at *
 subst hv
 unfold maxLen at hc2
 by_cases hm:(N:Int)≤left
 ·have q:¬ (left - (N:Int) < 0):=by omega
  go_enter Tryz.func107,Tryz.ntmps107
  go_wp2
  go_ret
  exact ⟨ret_lft hm rfl,Below.refl _ _⟩
 ·have q:left - (N:Int) < 0:=by omega
  go_enter Tryz.func107,Tryz.ntmps107
  go_wp2
  go_ret
  exact ⟨ret_lno (by omega),Below.refl _ _⟩
set_option maxRecDepth 20000 in
set_option maxHeartbeats 1600000 in
theorem dszNames0 (l:List (List Int)) (he:∀ x∈l,SzC Tryz.prog 107 (raw x)):SzC Tryz.prog 58 (seqOf 1 (fun n=>[raw n]) l):=by
 unfold seqOf
 intro v F left w h h0 h1
 obtain ⟨A,c,hv,hc1,hc2,hrd⟩:=h.read
 obtain ⟨N,hN⟩:∃ N,l.length=N:=⟨_,rfl⟩
 obtain ⟨g,hg⟩:∃ g:(List Int)→List Cel,(fun n=>[raw n])=g:=⟨_,rfl⟩
 have hgn:∀ x,(g x).length=1:=fun x=>by subst hg; rfl
 have hgx:∀ x,g x = [raw x]:=fun x=>by subst hg; rfl
 rw [Cel.bulk]
 rw [hg] at hrd ⊢
 rw [hN] at hv hc1 hrd ⊢
 unfold maxLen at hc2
 obtain ⟨S,hS⟩:∃ S,bulks (cells g l)=S:=⟨_,rfl⟩
 rw [hS]
 have HN:=hide hN
 have HS:=hide hS
 have HRD:=hide hrd
 have HE:=hide he
 have HGN:=hide hgn
 have HGX:=hide hgx
 subst hv
 clear hN hS hrd he hgn hg h hgx
 by_cases hle:(N:Int)≤left
 ·go_enter Tryz.func58,Tryz.ntmps58
  go_wp2
  go_loopw [1,5] (fun u i wr=>∃ j z:Nat,j≤N∧i=.int .i64 j∧u=.int .i64 (left - N - z)∧(z:Int)≤left - N∧z≤S∧Hid (bulks (cells g (l.take j))=z)∧Below w.heap.size w wr)
   (fun _ i _=>N - (intOf i).toNat)
  case atStart=>exact ⟨0,0,Nat.zero_le _,rfl,by go_num,by omega,Nat.zero_le _,hide (by simp [cells,bulks]),Below.refl _ _⟩
  case round =>
   obtain ⟨j,z,hj,rfl,rfl,hzl,hzS,HZ,hbel⟩:=hrel
   by_cases hlt:j < N
   ·obtain ⟨b,off,us,G,rfl,P⟩:=HRD.out (by omega)
    have hjn:j < l.length:=by rw [HN.out]; exact hlt
    have hlen2:j * 1=(cells g (l.take j)).length:=by rw [cells_len (sz:=1) HGN.out,List.length_take]; omega
    have hmem:l[j]∈l:=List.getElem_mem hjn
    have hz2:=congrArg bulks (cells_take g hjn)
    have hz3:bulks (cells g (l.take (j + 1)))≤S:=by
     rw [← HS.out,cells_split g l (j + 1),bulks_app]; omega
    rw [cells_split g l j,cells_drop g hjn] at P
    rw [bulks_app,HZ.out] at hz2
    generalize l[j]=x at *
    rw [HGX.out x] at P hz2
    simp only [List.cons_append,List.nil_append] at P
    simp only [bulks,Nat.add_zero] at hz2
    obtain ⟨y1,G1,c1,l1⟩:=(P.step hbel).cell hlen2
    rw [Nat.mul_one] at c1
    obtain ⟨m,hm⟩:∃ m,(raw x).bulk=m:=⟨_,rfl⟩
    have hcall:=HE.out x hmem y1 G1 (left - N - z) wr l1 (by omega) (by omega)
    rw [hm] at hz2 hcall
    rw [hz2] at hz3
    have HZ2:=hide hz2
    have HB:=hide hbel
    have k1:(j:Int) < (N:Int):=by omega
    clear hbel P l1 hmem hlen2 hjn hz2 hm
    by_cases hmm:(m:Int)≤left - N - z
    ·rw [lft,if_pos hmm] at hcall
     have q1:¬ (left - (N:Int) - (z:Int) - (m:Int) < 0):=by omega
     go_wp2_with fail
     refine hcall.mono ?_
     rintro e w2 ⟨rfl,b2⟩
     go_wp2_with fail
     go_roundw
     case rel=>exact ⟨j + 1,z + m,by omega,by go_num,by go_num,by omega,by omega,HZ2,HB.out.trans (b2.mono HB.out.size)⟩
     case measure=>simp [intOf]; omega
    ·rw [lft,if_neg hmm] at hcall
     go_wp2_with fail
     refine hcall.mono ?_
     rintro e w2 ⟨rfl,b2⟩
     go_wp2_with fail
     go_ret
     exact ⟨ret_lno (by omega),HB.out.trans (b2.mono HB.out.size)⟩
   ·obtain rfl:j=N:=by omega
    have hz:=HZ.out
    rw [List.take_of_length_le (by rw [HN.out]; omega),HS.out] at hz
    subst hz
    have HB:=hide hbel
    clear hbel HZ
    go_wp2
    go_ret
    exact ⟨ret_lft (by omega) (by omega),HB.out⟩
 ·have hneg:left - (N:Int) < 0:=by omega
  go_enter Tryz.func58,Tryz.ntmps58
  go_wp2
  go_ret
  exact ⟨ret_lno (by omega),Below.refl _ _⟩
theorem dszNames (l:List (List Int)):SzC Tryz.prog 58 (names l):=dszNames0 l fun x _=>dszRaw x
set_option maxRecDepth 20000 in
set_option maxHeartbeats 1600000 in
theorem dszTrees (l:List T) (he:∀ x∈l,SzA Tryz.prog 158 (T.cells x)):SzC Tryz.prog 193 (seqOf 4 T.cells l):=by
 unfold seqOf
 intro v F left w h h0 h1
 obtain ⟨A,c,hv,hc1,hc2,hrd⟩:=h.read
 obtain ⟨N,hN⟩:∃ N,l.length=N:=⟨_,rfl⟩
 obtain ⟨g,hg⟩:∃ g:T→List Cel,T.cells=g:=⟨_,rfl⟩
 have hgn:∀ x,(g x).length=4:=fun x=>by subst hg; rw [x.cells_eq]; rfl
 rw [Cel.bulk]
 rw [hg] at hrd ⊢
 rw [hg] at he
 rw [hN] at hv hc1 hrd ⊢
 unfold maxLen at hc2
 obtain ⟨S,hS⟩:∃ S,bulks (cells g l)=S:=⟨_,rfl⟩
 rw [hS]
 have HN:=hide hN
 have HS:=hide hS
 have HRD:=hide hrd
 have HE:=hide he
 have HGN:=hide hgn
 subst hv
 clear hN hS hrd he hgn hg h
 by_cases hle:(N:Int)≤left
 ·go_enter Tryz.func193,Tryz.ntmps193
  go_wp2
  go_loopw [1,5] (fun u i wr=>∃ j z:Nat,j≤N∧i=.int .i64 j∧u=.int .i64 (left - N - z)∧(z:Int)≤left - N∧z≤S∧Hid (bulks (cells g (l.take j))=z)∧Below w.heap.size w wr)
   (fun _ i _=>N - (intOf i).toNat)
  case atStart=>exact ⟨0,0,Nat.zero_le _,rfl,by go_num,by omega,Nat.zero_le _,hide (by simp [cells,bulks]),Below.refl _ _⟩
  case round =>
   obtain ⟨j,z,hj,rfl,rfl,hzl,hzS,HZ,hbel⟩:=hrel
   by_cases hlt:j < N
   ·obtain ⟨b,off,us,G,rfl,P⟩:=HRD.out (by omega)
    have hjn:j < l.length:=by rw [HN.out]; exact hlt
    have hlen2:j * 4=(cells g (l.take j)).length:=by rw [cells_len (sz:=4) HGN.out,List.length_take]; omega
    have hmem:l[j]∈l:=List.getElem_mem hjn
    have hz2:=congrArg bulks (cells_take g hjn)
    have hz3:bulks (cells g (l.take (j + 1)))≤S:=by
     rw [← HS.out,cells_split g l (j + 1),bulks_app]; omega
    rw [cells_split g l j,cells_drop g hjn] at P
    rw [bulks_app,HZ.out] at hz2
    generalize l[j]=x at *
    obtain ⟨y1,G1,n1,c1,l1⟩:=(P.step hbel).mid hlen2 (HGN.out x)
    have s1:((Tryz.prog.info? 136).map (·.size))=some y1.length:=by rw [n1]; kernel_rfl
    obtain ⟨m,hm⟩:∃ m,bulks (g x)=m:=⟨_,rfl⟩
    have hcall:=HE.out x hmem y1 G1 (left - N - z) wr l1 (by omega) (by omega)
    rw [hm] at hz2 hcall
    have HC1:=hide c1
    have HS1:=hide s1
    rw [hz2] at hz3
    have HZ2:=hide hz2
    have HB:=hide hbel
    have k1:(j:Int) < (N:Int):=by omega
    clear hbel P l1 hmem hlen2 hjn hz2 hm c1 s1 n1
    by_cases hmm:(m:Int)≤left - N - z
    ·rw [lft,if_pos hmm] at hcall
     have q1:¬ (left - (N:Int) - (z:Int) - (m:Int) < 0):=by omega
     go_wp2_with ((with_reducible refine at_load 136 ?_); refine wpList_load_mid rfl _ _ rfl b (off + j * 4) rfl _ _ HC1.out Tryz.underlying136 rfl HS1.out ?_)
     refine hcall.mono ?_
     rintro e w2 ⟨rfl,b2⟩
     go_wp2_with fail
     go_roundw
     case rel=>exact ⟨j + 1,z + m,by omega,by go_num,by go_num,by omega,by omega,HZ2,HB.out.trans (b2.mono HB.out.size)⟩
     case measure=>simp [intOf]; omega
    ·rw [lft,if_neg hmm] at hcall
     go_wp2_with ((with_reducible refine at_load 136 ?_); refine wpList_load_mid rfl _ _ rfl b (off + j * 4) rfl _ _ HC1.out Tryz.underlying136 rfl HS1.out ?_)
     refine hcall.mono ?_
     rintro e w2 ⟨rfl,b2⟩
     go_wp2_with fail
     go_ret
     exact ⟨ret_lno (by omega),HB.out.trans (b2.mono HB.out.size)⟩
   ·obtain rfl:j=N:=by omega
    have hz:=HZ.out
    rw [List.take_of_length_le (by rw [HN.out]; omega),HS.out] at hz
    subst hz
    have HB:=hide hbel
    clear hbel HZ
    go_wp2
    go_ret
    exact ⟨ret_lft (by omega) (by omega),HB.out⟩
 ·have hneg:left - (N:Int) < 0:=by omega
  go_enter Tryz.func193,Tryz.ntmps193
  go_wp2
  go_ret
  exact ⟨ret_lno (by omega),Below.refl _ _⟩
set_option maxRecDepth 20000 in
set_option maxHeartbeats 1600000 in
theorem dszTree0 (x:T) (IH:SzC Tryz.prog 193 (seqOf 4 T.cells x.kids)):SzA Tryz.prog 158 x.cells:=by
 intro us F left w h h0 h1
 have hd:=h
 rw [x.cells_eq] at hd
 obtain ⟨r0,G0,rfl,q0⟩:=hd.nums1
 obtain ⟨A1,m1,c1,r1,G1,rfl,q1⟩:=q0.seqs1
 obtain ⟨A2,m2,c2,r2,G2,rfl,q2⟩:=q1.seqs1
 obtain ⟨A3,m3,c3,r3,G3,rfl,q3⟩:=q2.seqs1
 obtain rfl:=q3.nil1
 clear q0 q1 q2 q3
 obtain ⟨us,hus⟩:∃ us:List Value,[.int .i64 x.kind,.slice A1 m1 c1,.slice A2 m2 c2,.slice A3 m3 c3]=us:=⟨_,rfl⟩
 obtain ⟨wa,hwa⟩:∃ wa,w.alloc (.cells #[.int .i64 x.kind,.slice A1 m1 c1,.slice A2 m2 c2,.slice A3 m3 c3] 136)=wa:=⟨_,rfl⟩
 have ba:Below w.heap.size w wa:=by rw [← hwa]; exact (Below.refl _ _).alloc (Nat.le_refl _) _
 have bx0:Box wa w.heap.size 136 us:=by rw [← hwa,← hus]; exact Box.new w _ _
 rw [hus] at h
 obtain ⟨D1,hD1⟩:∃ D,(raw x.data).bulk=D:=⟨_,rfl⟩
 obtain ⟨D2,hD2⟩:∃ D,(Go.Proofs.YtgaadpkefncnmaaGreatDoor.names x.names).bulk=D:=⟨_,rfl⟩
 obtain ⟨D3,hD3⟩:∃ D,(seqOf 4 T.cells x.kids).bulk=D:=⟨_,rfl⟩
 have hsum:bulks x.cells=D1 + D2 + D3:=by
  rw [x.cells_top]
  simp only [bulks,hD1,hD2,hD3,num_bulk]
  omega
 rw [hsum]
 rw [x.cells_top] at h
 have P0:=ReadV.start (h.step ba)
 have HUS:=hide hus
 have HB0:=hide ba
 have HIH:=hide IH
 clear IH
 clear h hus ba hsum
 go_enter Tryz.func158,Tryz.ntmps158
 have P1:=P0.next
 clear P0
 obtain ⟨F1,l1⟩:=P1.call (p:=1) (by simp only [List.length_append,List.length_cons,List.length_nil]) (v:=.slice A1 m1 c1) (by rw [← HUS.out]; rfl)
 have call1:=dszRaw x.data _ F1 (left) wa l1 (by omega) (by omega)
 have cc1:wa.cell? ⟨w.heap.size,1,none⟩=some (.slice A1 m1 c1):=bx0.cell (by rw [← HUS.out]; rfl)
 rw [hD1] at call1
 have PN1:=P1.next
 have BX1:=hide bx0
 clear l1 P1 bx0
 by_cases hm1:(D1:Int)≤left
 ·rw [lft,if_pos hm1] at call1
  have q1:¬ (left - (D1:Int) < 0):=by omega
  go_wp2_with fail
  refine call1.mono ?_
  rintro e W1 ⟨rfl,b1⟩
  have P2:=PN1.step b1
  have bx2:=BX1.out.step b1
  have HB2:=hide (HB0.out.trans (b1.mono HB0.out.size))
  clear call1 PN1 b1 BX1 cc1
  obtain ⟨F2,l2⟩:=P2.call (p:=2) (by simp only [List.length_append,List.length_cons,List.length_nil]) (v:=.slice A2 m2 c2) (by rw [← HUS.out]; rfl)
  have call2:=dszNames x.names _ F2 (left - D1) W1 l2 (by omega) (by omega)
  have cc2:W1.cell? ⟨w.heap.size,2,none⟩=some (.slice A2 m2 c2):=bx2.cell (by rw [← HUS.out]; rfl)
  rw [hD2] at call2
  have PN2:=P2.next
  have BX2:=hide bx2
  clear l2 P2 bx2
  by_cases hm2:(D2:Int)≤left - D1
  ·rw [lft,if_pos hm2] at call2
   have q2:¬ (left - D1 - (D2:Int) < 0):=by omega
   go_wp2_with fail
   refine call2.mono ?_
   rintro e W2 ⟨rfl,b2⟩
   have P3:=PN2.step b2
   have bx3:=BX2.out.step b2
   have HB3:=hide (HB2.out.trans (b2.mono HB2.out.size))
   clear call2 PN2 b2 BX2 cc2
   obtain ⟨F3,l3⟩:=P3.call (p:=3) (by simp only [List.length_append,List.length_cons,List.length_nil]) (v:=.slice A3 m3 c3) (by rw [← HUS.out]; rfl)
   have call3:=HIH.out _ F3 (left - D1 - D2) W2 l3 (by omega) (by omega)
   have cc3:W2.cell? ⟨w.heap.size,3,none⟩=some (.slice A3 m3 c3):=bx3.cell (by rw [← HUS.out]; rfl)
   rw [hD3] at call3
   have PN3:=P3.next
   have BX3:=hide bx3
   clear l3 P3 bx3
   by_cases hm3:(D3:Int)≤left - D1 - D2
   ·rw [lft,if_pos hm3] at call3
    have q3:¬ (left - D1 - D2 - (D3:Int) < 0):=by omega
    go_wp2_with fail
    refine call3.mono ?_
    rintro e W3 ⟨rfl,b3⟩
    have P4:=PN3.step b3
    have bx4:=BX3.out.step b3
    have HB4:=hide (HB3.out.trans (b3.mono HB3.out.size))
    clear call3 PN3 b3 BX3 cc3
    go_wp2_with fail
    go_ret
    exact ⟨ret_lft (by omega) (by omega),HB4.out⟩
   ·rw [lft,if_neg hm3] at call3
    go_wp2_with fail
    refine call3.mono ?_
    rintro e W3 ⟨rfl,b3⟩
    go_wp2_with fail
    go_ret
    exact ⟨ret_lno (by omega),HB3.out.trans (b3.mono HB3.out.size)⟩
  ·rw [lft,if_neg hm2] at call2
   go_wp2_with fail
   refine call2.mono ?_
   rintro e W2 ⟨rfl,b2⟩
   go_wp2_with fail
   go_ret
   exact ⟨ret_lno (by omega),HB2.out.trans (b2.mono HB2.out.size)⟩
 ·rw [lft,if_neg hm1] at call1
  go_wp2_with fail
  refine call1.mono ?_
  rintro e W1 ⟨rfl,b1⟩
  go_wp2_with fail
  go_ret
  exact ⟨ret_lno (by omega),HB0.out.trans (b1.mono HB0.out.size)⟩
theorem dszTree:∀ t:T,SzA Tryz.prog 158 t.cells:=by
 intro t
 induction t using T.ind with
 | h k d ns ks ih=>exact dszTree0 _ (dszTrees ks ih)
set_option maxRecDepth 20000 in
set_option maxHeartbeats 1600000 in
theorem dszReal0 (x:DReal):SzA Tryz.prog 108 x.cells:=by
 intro us F left w h h0 h1
 have hd:=h
 rw [x.cells_eq] at hd
 obtain ⟨A0,m0,c0,r0,G0,rfl,q0⟩:=hd.seqs1
 obtain ⟨A1,m1,c1,r1,G1,rfl,q1⟩:=q0.seqs1
 obtain ⟨A2,m2,c2,r2,G2,rfl,q2⟩:=q1.seqs1
 obtain rfl:=q2.nil1
 clear q0 q1 q2
 obtain ⟨us,hus⟩:∃ us:List Value,[.slice A0 m0 c0,.slice A1 m1 c1,.slice A2 m2 c2]=us:=⟨_,rfl⟩
 obtain ⟨wa,hwa⟩:∃ wa,w.alloc (.cells #[.slice A0 m0 c0,.slice A1 m1 c1,.slice A2 m2 c2] 140)=wa:=⟨_,rfl⟩
 have ba:Below w.heap.size w wa:=by rw [← hwa]; exact (Below.refl _ _).alloc (Nat.le_refl _) _
 have bx0:Box wa w.heap.size 140 us:=by rw [← hwa,← hus]; exact Box.new w _ _
 rw [hus] at h
 obtain ⟨D0,hD0⟩:∃ D,(raw x.drv).bulk=D:=⟨_,rfl⟩
 obtain ⟨D1,hD1⟩:∃ D,(raw x.out).bulk=D:=⟨_,rfl⟩
 obtain ⟨D2,hD2⟩:∃ D,(raw x.path).bulk=D:=⟨_,rfl⟩
 have hsum:bulks x.cells=D0 + D1 + D2:=by
  rw [x.cells_top]
  simp only [bulks,hD0,hD1,hD2]
  omega
 rw [hsum]
 rw [x.cells_top] at h
 have P0:=ReadV.start (h.step ba)
 have HUS:=hide hus
 have HB0:=hide ba
 clear h hus ba hsum
 go_enter Tryz.func108,Tryz.ntmps108
 obtain ⟨F0,l0⟩:=P0.call (p:=0) (by rfl) (v:=.slice A0 m0 c0) (by rw [← HUS.out]; rfl)
 have call0:=dszRaw x.drv _ F0 (left) wa l0 (by omega) (by omega)
 have cc0:wa.cell? ⟨w.heap.size,0,none⟩=some (.slice A0 m0 c0):=bx0.cell (by rw [← HUS.out]; rfl)
 rw [hD0] at call0
 have PN0:=P0.next
 have BX0:=hide bx0
 clear l0 P0 bx0
 by_cases hm0:(D0:Int)≤left
 ·rw [lft,if_pos hm0] at call0
  have q0:¬ (left - (D0:Int) < 0):=by omega
  go_wp2_with fail
  refine call0.mono ?_
  rintro e W0 ⟨rfl,b0⟩
  have P1:=PN0.step b0
  have bx1:=BX0.out.step b0
  have HB1:=hide (HB0.out.trans (b0.mono HB0.out.size))
  clear call0 PN0 b0 BX0 cc0
  obtain ⟨F1,l1⟩:=P1.call (p:=1) (by simp only [List.length_append,List.length_cons,List.length_nil]) (v:=.slice A1 m1 c1) (by rw [← HUS.out]; rfl)
  have call1:=dszRaw x.out _ F1 (left - D0) W0 l1 (by omega) (by omega)
  have cc1:W0.cell? ⟨w.heap.size,1,none⟩=some (.slice A1 m1 c1):=bx1.cell (by rw [← HUS.out]; rfl)
  rw [hD1] at call1
  have PN1:=P1.next
  have BX1:=hide bx1
  clear l1 P1 bx1
  by_cases hm1:(D1:Int)≤left - D0
  ·rw [lft,if_pos hm1] at call1
   have q1:¬ (left - D0 - (D1:Int) < 0):=by omega
   go_wp2_with fail
   refine call1.mono ?_
   rintro e W1 ⟨rfl,b1⟩
   have P2:=PN1.step b1
   have bx2:=BX1.out.step b1
   have HB2:=hide (HB1.out.trans (b1.mono HB1.out.size))
   clear call1 PN1 b1 BX1 cc1
   obtain ⟨F2,l2⟩:=P2.call (p:=2) (by simp only [List.length_append,List.length_cons,List.length_nil]) (v:=.slice A2 m2 c2) (by rw [← HUS.out]; rfl)
   have call2:=dszRaw x.path _ F2 (left - D0 - D1) W1 l2 (by omega) (by omega)
   have cc2:W1.cell? ⟨w.heap.size,2,none⟩=some (.slice A2 m2 c2):=bx2.cell (by rw [← HUS.out]; rfl)
   rw [hD2] at call2
   have PN2:=P2.next
   have BX2:=hide bx2
   clear l2 P2 bx2
   by_cases hm2:(D2:Int)≤left - D0 - D1
   ·rw [lft,if_pos hm2] at call2
    have q2:¬ (left - D0 - D1 - (D2:Int) < 0):=by omega
    go_wp2_with fail
    refine call2.mono ?_
    rintro e W2 ⟨rfl,b2⟩
    have P3:=PN2.step b2
    have bx3:=BX2.out.step b2
    have HB3:=hide (HB2.out.trans (b2.mono HB2.out.size))
    clear call2 PN2 b2 BX2 cc2
    go_wp2_with fail
    go_ret
    exact ⟨ret_lft (by omega) (by omega),HB3.out⟩
   ·rw [lft,if_neg hm2] at call2
    go_wp2_with fail
    refine call2.mono ?_
    rintro e W2 ⟨rfl,b2⟩
    go_wp2_with fail
    go_ret
    exact ⟨ret_lno (by omega),HB2.out.trans (b2.mono HB2.out.size)⟩
  ·rw [lft,if_neg hm1] at call1
   go_wp2_with fail
   refine call1.mono ?_
   rintro e W1 ⟨rfl,b1⟩
   go_wp2_with fail
   go_ret
   exact ⟨ret_lno (by omega),HB1.out.trans (b1.mono HB1.out.size)⟩
 ·rw [lft,if_neg hm0] at call0
  go_wp2_with fail
  refine call0.mono ?_
  rintro e W0 ⟨rfl,b0⟩
  go_wp2_with fail
  go_ret
  exact ⟨ret_lno (by omega),HB0.out.trans (b0.mono HB0.out.size)⟩
theorem dszReal (x:DReal):SzA Tryz.prog 108 x.cells:=dszReal0 x
set_option maxRecDepth 20000 in
set_option maxHeartbeats 1600000 in
theorem dszRealS0 (l:List DReal) (he:∀ x∈l,SzA Tryz.prog 108 (DReal.cells x)):SzC Tryz.prog 59 (seqOf 3 DReal.cells l):=by
 unfold seqOf
 intro v F left w h h0 h1
 obtain ⟨A,c,hv,hc1,hc2,hrd⟩:=h.read
 obtain ⟨N,hN⟩:∃ N,l.length=N:=⟨_,rfl⟩
 obtain ⟨g,hg⟩:∃ g:DReal→List Cel,DReal.cells=g:=⟨_,rfl⟩
 have hgn:∀ x,(g x).length=3:=fun x=>by subst hg; rw [x.cells_eq]; rfl
 rw [Cel.bulk]
 rw [hg] at hrd ⊢
 rw [hg] at he
 rw [hN] at hv hc1 hrd ⊢
 unfold maxLen at hc2
 obtain ⟨S,hS⟩:∃ S,bulks (cells g l)=S:=⟨_,rfl⟩
 rw [hS]
 have HN:=hide hN
 have HS:=hide hS
 have HRD:=hide hrd
 have HE:=hide he
 have HGN:=hide hgn
 subst hv
 clear hN hS hrd he hgn hg h
 by_cases hle:(N:Int)≤left
 ·go_enter Tryz.func59,Tryz.ntmps59
  go_wp2
  go_loopw [1,5] (fun u i wr=>∃ j z:Nat,j≤N∧i=.int .i64 j∧u=.int .i64 (left - N - z)∧(z:Int)≤left - N∧z≤S∧Hid (bulks (cells g (l.take j))=z)∧Below w.heap.size w wr)
   (fun _ i _=>N - (intOf i).toNat)
  case atStart=>exact ⟨0,0,Nat.zero_le _,rfl,by go_num,by omega,Nat.zero_le _,hide (by simp [cells,bulks]),Below.refl _ _⟩
  case round =>
   obtain ⟨j,z,hj,rfl,rfl,hzl,hzS,HZ,hbel⟩:=hrel
   by_cases hlt:j < N
   ·obtain ⟨b,off,us,G,rfl,P⟩:=HRD.out (by omega)
    have hjn:j < l.length:=by rw [HN.out]; exact hlt
    have hlen2:j * 3=(cells g (l.take j)).length:=by rw [cells_len (sz:=3) HGN.out,List.length_take]; omega
    have hmem:l[j]∈l:=List.getElem_mem hjn
    have hz2:=congrArg bulks (cells_take g hjn)
    have hz3:bulks (cells g (l.take (j + 1)))≤S:=by
     rw [← HS.out,cells_split g l (j + 1),bulks_app]; omega
    rw [cells_split g l j,cells_drop g hjn] at P
    rw [bulks_app,HZ.out] at hz2
    generalize l[j]=x at *
    obtain ⟨y1,G1,n1,c1,l1⟩:=(P.step hbel).mid hlen2 (HGN.out x)
    have s1:((Tryz.prog.info? 140).map (·.size))=some y1.length:=by rw [n1]; kernel_rfl
    obtain ⟨m,hm⟩:∃ m,bulks (g x)=m:=⟨_,rfl⟩
    have hcall:=HE.out x hmem y1 G1 (left - N - z) wr l1 (by omega) (by omega)
    rw [hm] at hz2 hcall
    have HC1:=hide c1
    have HS1:=hide s1
    rw [hz2] at hz3
    have HZ2:=hide hz2
    have HB:=hide hbel
    have k1:(j:Int) < (N:Int):=by omega
    clear hbel P l1 hmem hlen2 hjn hz2 hm c1 s1 n1
    by_cases hmm:(m:Int)≤left - N - z
    ·rw [lft,if_pos hmm] at hcall
     have q1:¬ (left - (N:Int) - (z:Int) - (m:Int) < 0):=by omega
     go_wp2_with ((with_reducible refine at_load 140 ?_); refine wpList_load_mid rfl _ _ rfl b (off + j * 3) rfl _ _ HC1.out Tryz.underlying140 rfl HS1.out ?_)
     refine hcall.mono ?_
     rintro e w2 ⟨rfl,b2⟩
     go_wp2_with fail
     go_roundw
     case rel=>exact ⟨j + 1,z + m,by omega,by go_num,by go_num,by omega,by omega,HZ2,HB.out.trans (b2.mono HB.out.size)⟩
     case measure=>simp [intOf]; omega
    ·rw [lft,if_neg hmm] at hcall
     go_wp2_with ((with_reducible refine at_load 140 ?_); refine wpList_load_mid rfl _ _ rfl b (off + j * 3) rfl _ _ HC1.out Tryz.underlying140 rfl HS1.out ?_)
     refine hcall.mono ?_
     rintro e w2 ⟨rfl,b2⟩
     go_wp2_with fail
     go_ret
     exact ⟨ret_lno (by omega),HB.out.trans (b2.mono HB.out.size)⟩
   ·obtain rfl:j=N:=by omega
    have hz:=HZ.out
    rw [List.take_of_length_le (by rw [HN.out]; omega),HS.out] at hz
    subst hz
    have HB:=hide hbel
    clear hbel HZ
    go_wp2
    go_ret
    exact ⟨ret_lft (by omega) (by omega),HB.out⟩
 ·have hneg:left - (N:Int) < 0:=by omega
  go_enter Tryz.func59,Tryz.ntmps59
  go_wp2
  go_ret
  exact ⟨ret_lno (by omega),Below.refl _ _⟩
theorem dszRealS (l:List DReal):SzC Tryz.prog 59 (seqOf 3 DReal.cells l):=dszRealS0 l fun x _=>dszReal x
set_option maxRecDepth 20000 in
set_option maxHeartbeats 1600000 in
theorem dszObj0 (x:DObj):SzA Tryz.prog 106 x.cells:=by
 intro us F left w h h0 h1
 have hd:=h
 rw [x.cells_eq] at hd
 obtain ⟨A0,m0,c0,r0,G0,rfl,q0⟩:=hd.seqs1
 obtain ⟨r1,G1,rfl,q1⟩:=q0.nums1
 obtain ⟨r2,G2,rfl,q2⟩:=q1.nums1
 obtain ⟨A3,m3,c3,r3,G3,rfl,q3⟩:=q2.seqs1
 obtain ⟨A4,m4,c4,r4,G4,rfl,q4⟩:=q3.seqs1
 obtain ⟨A5,m5,c5,r5,G5,rfl,q5⟩:=q4.seqs1
 obtain ⟨A6,m6,c6,r6,G6,rfl,q6⟩:=q5.seqs1
 obtain ⟨A7,m7,c7,r7,G7,rfl,q7⟩:=q6.seqs1
 obtain ⟨A8,m8,c8,r8,G8,rfl,q8⟩:=q7.seqs1
 obtain rfl:=q8.nil1
 clear q0 q1 q2 q3 q4 q5 q6 q7 q8
 obtain ⟨us,hus⟩:∃ us:List Value,[.slice A0 m0 c0,.int .i64 x.kind,.int .i64 x.tree.kind,.slice A3 m3 c3,.slice A4 m4 c4,.slice A5 m5 c5,.slice A6 m6 c6,.slice A7 m7 c7,.slice A8 m8 c8]=us:=⟨_,rfl⟩
 obtain ⟨wa,hwa⟩:∃ wa,w.alloc (.cells #[.slice A0 m0 c0,.int .i64 x.kind,.int .i64 x.tree.kind,.slice A3 m3 c3,.slice A4 m4 c4,.slice A5 m5 c5,.slice A6 m6 c6,.slice A7 m7 c7,.slice A8 m8 c8] 138)=wa:=⟨_,rfl⟩
 have ba:Below w.heap.size w wa:=by rw [← hwa]; exact (Below.refl _ _).alloc (Nat.le_refl _) _
 have bx0:Box wa w.heap.size 138 us:=by rw [← hwa,← hus]; exact Box.new w _ _
 rw [hus] at h
 obtain ⟨D0,hD0⟩:∃ D,(raw x.name).bulk=D:=⟨_,rfl⟩
 obtain ⟨D2,hD2⟩:∃ D,bulks x.tree.cells=D:=⟨_,rfl⟩
 obtain ⟨D3,hD3⟩:∃ D,(Go.Proofs.YtgaadpkefncnmaaGreatDoor.names x.refs).bulk=D:=⟨_,rfl⟩
 obtain ⟨D4,hD4⟩:∃ D,(raw x.frm).bulk=D:=⟨_,rfl⟩
 obtain ⟨D5,hD5⟩:∃ D,(raw x.out).bulk=D:=⟨_,rfl⟩
 have hsum:bulks x.cells=D0 + D2 + D3 + D4 + D5:=by
  rw [x.cells_top]
  simp only [bulks_app,bulks,hD0,hD2,hD3,hD4,hD5,num_bulk]
  omega
 rw [hsum]
 rw [x.cells_top] at h
 have P0:=ReadV.start (h.step ba)
 have HUS:=hide hus
 have HB0:=hide ba
 clear h hus ba hsum
 go_enter Tryz.func106,Tryz.ntmps106
 obtain ⟨F0,l0⟩:=P0.call (p:=0) (by rfl) (v:=.slice A0 m0 c0) (by rw [← HUS.out]; rfl)
 have call0:=dszRaw x.name _ F0 (left) wa l0 (by omega) (by omega)
 have cc0:wa.cell? ⟨w.heap.size,0,none⟩=some (.slice A0 m0 c0):=bx0.cell (by rw [← HUS.out]; rfl)
 rw [hD0] at call0
 have PN0:=P0.next
 have BX0:=hide bx0
 clear l0 P0 bx0
 by_cases hm0:(D0:Int)≤left
 ·rw [lft,if_pos hm0] at call0
  have q0:¬ (left - (D0:Int) < 0):=by omega
  go_wp2_with fail
  refine call0.mono ?_
  rintro e W0 ⟨rfl,b0⟩
  have P1:=PN0.step b0
  have bx1:=BX0.out.step b0
  have HB1:=hide (HB0.out.trans (b0.mono HB0.out.size))
  clear call0 PN0 b0 BX0 cc0
  have P2:=P1.next
  clear P1
  obtain ⟨F2,l2⟩:=P2.mid (p:=2) (n:=4) (by simp only [List.length_append,List.length_cons,List.length_nil]) (by rw [T.cells_len]) (ms:=[.int .i64 x.tree.kind,.slice A3 m3 c3,.slice A4 m4 c4,.slice A5 m5 c5]) (by rw [← HUS.out]; rfl)
  have call2:=dszTree x.tree [.int .i64 x.tree.kind,.slice A3 m3 c3,.slice A4 m4 c4,.slice A5 m5 c5] F2 (left - D0) W0 l2 (by omega) (by omega)
  have RG2:Hid (W0.rangeAt w.heap.size 2 [.int .i64 x.tree.kind,.slice A3 m3 c3,.slice A4 m4 c4,.slice A5 m5 c5]):=hide (by have:=bx1.mid 2 4; rw [← HUS.out] at this; exact this)
  rw [hD2] at call2
  have PN2:=P2.skip
  have BX2:=hide bx1
  clear l2 P2 bx1
  by_cases hm2:(D2:Int)≤left - D0
  ·rw [lft,if_pos hm2] at call2
   have q2:¬ (left - D0 - (D2:Int) < 0):=by omega
   go_wp2_with ((with_reducible refine at_load 136 ?_); refine wpList_load_mid rfl _ _ rfl w.heap.size 2 rfl _ _ RG2.out Tryz.underlying136 rfl (by kernel_rfl) ?_)
   refine call2.mono ?_
   rintro e W2 ⟨rfl,b2⟩
   have P3:=PN2.step b2
   have bx3:=BX2.out.step b2
   have HB3:=hide (HB1.out.trans (b2.mono HB1.out.size))
   clear call2 PN2 b2 BX2 RG2
   obtain ⟨F3,l3⟩:=P3.call (p:=6) (by simp only [List.length_append,List.length_cons,List.length_nil,T.cells_len]) (v:=.slice A6 m6 c6) (by rw [← HUS.out]; rfl)
   have call3:=dszNames x.refs _ F3 (left - D0 - D2) W2 l3 (by omega) (by omega)
   have cc3:W2.cell? ⟨w.heap.size,6,none⟩=some (.slice A6 m6 c6):=bx3.cell (by rw [← HUS.out]; rfl)
   rw [hD3] at call3
   have PN3:=P3.next
   have BX3:=hide bx3
   clear l3 P3 bx3
   by_cases hm3:(D3:Int)≤left - D0 - D2
   ·rw [lft,if_pos hm3] at call3
    have q3:¬ (left - D0 - D2 - (D3:Int) < 0):=by omega
    go_wp2_with fail
    refine call3.mono ?_
    rintro e W3 ⟨rfl,b3⟩
    have P4:=PN3.step b3
    have bx4:=BX3.out.step b3
    have HB4:=hide (HB3.out.trans (b3.mono HB3.out.size))
    clear call3 PN3 b3 BX3 cc3
    obtain ⟨F4,l4⟩:=P4.call (p:=7) (by simp only [List.length_append,List.length_cons,List.length_nil,T.cells_len]) (v:=.slice A7 m7 c7) (by rw [← HUS.out]; rfl)
    have call4:=dszRaw x.frm _ F4 (left - D0 - D2 - D3) W3 l4 (by omega) (by omega)
    have cc4:W3.cell? ⟨w.heap.size,7,none⟩=some (.slice A7 m7 c7):=bx4.cell (by rw [← HUS.out]; rfl)
    rw [hD4] at call4
    have PN4:=P4.next
    have BX4:=hide bx4
    clear l4 P4 bx4
    by_cases hm4:(D4:Int)≤left - D0 - D2 - D3
    ·rw [lft,if_pos hm4] at call4
     have q4:¬ (left - D0 - D2 - D3 - (D4:Int) < 0):=by omega
     go_wp2_with fail
     refine call4.mono ?_
     rintro e W4 ⟨rfl,b4⟩
     have P5:=PN4.step b4
     have bx5:=BX4.out.step b4
     have HB5:=hide (HB4.out.trans (b4.mono HB4.out.size))
     clear call4 PN4 b4 BX4 cc4
     obtain ⟨F5,l5⟩:=P5.call (p:=8) (by simp only [List.length_append,List.length_cons,List.length_nil,T.cells_len]) (v:=.slice A8 m8 c8) (by rw [← HUS.out]; rfl)
     have call5:=dszRaw x.out _ F5 (left - D0 - D2 - D3 - D4) W4 l5 (by omega) (by omega)
     have cc5:W4.cell? ⟨w.heap.size,8,none⟩=some (.slice A8 m8 c8):=bx5.cell (by rw [← HUS.out]; rfl)
     rw [hD5] at call5
     have PN5:=P5.next
     have BX5:=hide bx5
     clear l5 P5 bx5
     by_cases hm5:(D5:Int)≤left - D0 - D2 - D3 - D4
     ·rw [lft,if_pos hm5] at call5
      have q5:¬ (left - D0 - D2 - D3 - D4 - (D5:Int) < 0):=by omega
      go_wp2_with fail
      refine call5.mono ?_
      rintro e W5 ⟨rfl,b5⟩
      have P6:=PN5.step b5
      have bx6:=BX5.out.step b5
      have HB6:=hide (HB5.out.trans (b5.mono HB5.out.size))
      clear call5 PN5 b5 BX5 cc5
      go_wp2_with fail
      go_ret
      exact ⟨ret_lft (by omega) (by omega),HB6.out⟩
     ·rw [lft,if_neg hm5] at call5
      go_wp2_with fail
      refine call5.mono ?_
      rintro e W5 ⟨rfl,b5⟩
      go_wp2_with fail
      go_ret
      exact ⟨ret_lno (by omega),HB5.out.trans (b5.mono HB5.out.size)⟩
    ·rw [lft,if_neg hm4] at call4
     go_wp2_with fail
     refine call4.mono ?_
     rintro e W4 ⟨rfl,b4⟩
     go_wp2_with fail
     go_ret
     exact ⟨ret_lno (by omega),HB4.out.trans (b4.mono HB4.out.size)⟩
   ·rw [lft,if_neg hm3] at call3
    go_wp2_with fail
    refine call3.mono ?_
    rintro e W3 ⟨rfl,b3⟩
    go_wp2_with fail
    go_ret
    exact ⟨ret_lno (by omega),HB3.out.trans (b3.mono HB3.out.size)⟩
  ·rw [lft,if_neg hm2] at call2
   go_wp2_with ((with_reducible refine at_load 136 ?_); refine wpList_load_mid rfl _ _ rfl w.heap.size 2 rfl _ _ RG2.out Tryz.underlying136 rfl (by kernel_rfl) ?_)
   refine call2.mono ?_
   rintro e W2 ⟨rfl,b2⟩
   go_wp2_with fail
   go_ret
   exact ⟨ret_lno (by omega),HB1.out.trans (b2.mono HB1.out.size)⟩
 ·rw [lft,if_neg hm0] at call0
  go_wp2_with fail
  refine call0.mono ?_
  rintro e W0 ⟨rfl,b0⟩
  go_wp2_with fail
  go_ret
  exact ⟨ret_lno (by omega),HB0.out.trans (b0.mono HB0.out.size)⟩
theorem dszObj (x:DObj):SzA Tryz.prog 106 x.cells:=dszObj0 x
set_option maxRecDepth 20000 in
set_option maxHeartbeats 1600000 in
theorem dszObjS0 (l:List DObj) (he:∀ x∈l,SzA Tryz.prog 106 (DObj.cells x)):SzC Tryz.prog 57 (seqOf 9 DObj.cells l):=by
 unfold seqOf
 intro v F left w h h0 h1
 obtain ⟨A,c,hv,hc1,hc2,hrd⟩:=h.read
 obtain ⟨N,hN⟩:∃ N,l.length=N:=⟨_,rfl⟩
 obtain ⟨g,hg⟩:∃ g:DObj→List Cel,DObj.cells=g:=⟨_,rfl⟩
 have hgn:∀ x,(g x).length=9:=fun x=>by subst hg; rw [x.cells_eq]; rfl
 rw [Cel.bulk]
 rw [hg] at hrd ⊢
 rw [hg] at he
 rw [hN] at hv hc1 hrd ⊢
 unfold maxLen at hc2
 obtain ⟨S,hS⟩:∃ S,bulks (cells g l)=S:=⟨_,rfl⟩
 rw [hS]
 have HN:=hide hN
 have HS:=hide hS
 have HRD:=hide hrd
 have HE:=hide he
 have HGN:=hide hgn
 subst hv
 clear hN hS hrd he hgn hg h
 by_cases hle:(N:Int)≤left
 ·go_enter Tryz.func57,Tryz.ntmps57
  go_wp2
  go_loopw [1,5] (fun u i wr=>∃ j z:Nat,j≤N∧i=.int .i64 j∧u=.int .i64 (left - N - z)∧(z:Int)≤left - N∧z≤S∧Hid (bulks (cells g (l.take j))=z)∧Below w.heap.size w wr)
   (fun _ i _=>N - (intOf i).toNat)
  case atStart=>exact ⟨0,0,Nat.zero_le _,rfl,by go_num,by omega,Nat.zero_le _,hide (by simp [cells,bulks]),Below.refl _ _⟩
  case round =>
   obtain ⟨j,z,hj,rfl,rfl,hzl,hzS,HZ,hbel⟩:=hrel
   by_cases hlt:j < N
   ·obtain ⟨b,off,us,G,rfl,P⟩:=HRD.out (by omega)
    have hjn:j < l.length:=by rw [HN.out]; exact hlt
    have hlen2:j * 9=(cells g (l.take j)).length:=by rw [cells_len (sz:=9) HGN.out,List.length_take]; omega
    have hmem:l[j]∈l:=List.getElem_mem hjn
    have hz2:=congrArg bulks (cells_take g hjn)
    have hz3:bulks (cells g (l.take (j + 1)))≤S:=by
     rw [← HS.out,cells_split g l (j + 1),bulks_app]; omega
    rw [cells_split g l j,cells_drop g hjn] at P
    rw [bulks_app,HZ.out] at hz2
    generalize l[j]=x at *
    obtain ⟨y1,G1,n1,c1,l1⟩:=(P.step hbel).mid hlen2 (HGN.out x)
    have s1:((Tryz.prog.info? 138).map (·.size))=some y1.length:=by rw [n1]; kernel_rfl
    obtain ⟨m,hm⟩:∃ m,bulks (g x)=m:=⟨_,rfl⟩
    have hcall:=HE.out x hmem y1 G1 (left - N - z) wr l1 (by omega) (by omega)
    rw [hm] at hz2 hcall
    have HC1:=hide c1
    have HS1:=hide s1
    rw [hz2] at hz3
    have HZ2:=hide hz2
    have HB:=hide hbel
    have k1:(j:Int) < (N:Int):=by omega
    clear hbel P l1 hmem hlen2 hjn hz2 hm c1 s1 n1
    by_cases hmm:(m:Int)≤left - N - z
    ·rw [lft,if_pos hmm] at hcall
     have q1:¬ (left - (N:Int) - (z:Int) - (m:Int) < 0):=by omega
     go_wp2_with ((with_reducible refine at_load 138 ?_); refine wpList_load_mid rfl _ _ rfl b (off + j * 9) rfl _ _ HC1.out Tryz.underlying138 rfl HS1.out ?_)
     refine hcall.mono ?_
     rintro e w2 ⟨rfl,b2⟩
     go_wp2_with fail
     go_roundw
     case rel=>exact ⟨j + 1,z + m,by omega,by go_num,by go_num,by omega,by omega,HZ2,HB.out.trans (b2.mono HB.out.size)⟩
     case measure=>simp [intOf]; omega
    ·rw [lft,if_neg hmm] at hcall
     go_wp2_with ((with_reducible refine at_load 138 ?_); refine wpList_load_mid rfl _ _ rfl b (off + j * 9) rfl _ _ HC1.out Tryz.underlying138 rfl HS1.out ?_)
     refine hcall.mono ?_
     rintro e w2 ⟨rfl,b2⟩
     go_wp2_with fail
     go_ret
     exact ⟨ret_lno (by omega),HB.out.trans (b2.mono HB.out.size)⟩
   ·obtain rfl:j=N:=by omega
    have hz:=HZ.out
    rw [List.take_of_length_le (by rw [HN.out]; omega),HS.out] at hz
    subst hz
    have HB:=hide hbel
    clear hbel HZ
    go_wp2
    go_ret
    exact ⟨ret_lft (by omega) (by omega),HB.out⟩
 ·have hneg:left - (N:Int) < 0:=by omega
  go_enter Tryz.func57,Tryz.ntmps57
  go_wp2
  go_ret
  exact ⟨ret_lno (by omega),Below.refl _ _⟩
theorem dszObjS (l:List DObj):SzC Tryz.prog 57 (seqOf 9 DObj.cells l):=dszObjS0 l fun x _=>dszObj x
set_option maxRecDepth 20000 in
set_option maxHeartbeats 1600000 in
theorem dszStore0 (x:DStore):SzA Tryz.prog 15 x.cells:=by
 intro us F left w h h0 h1
 have hd:=h
 rw [x.cells_eq] at hd
 obtain ⟨A0,m0,c0,r0,G0,rfl,q0⟩:=hd.seqs1
 obtain ⟨A1,m1,c1,r1,G1,rfl,q1⟩:=q0.seqs1
 obtain ⟨A2,m2,c2,r2,G2,rfl,q2⟩:=q1.seqs1
 obtain rfl:=q2.nil1
 clear q0 q1 q2
 obtain ⟨us,hus⟩:∃ us:List Value,[.slice A0 m0 c0,.slice A1 m1 c1,.slice A2 m2 c2]=us:=⟨_,rfl⟩
 obtain ⟨wa,hwa⟩:∃ wa,w.alloc (.cells #[.slice A0 m0 c0,.slice A1 m1 c1,.slice A2 m2 c2] 26)=wa:=⟨_,rfl⟩
 have ba:Below w.heap.size w wa:=by rw [← hwa]; exact (Below.refl _ _).alloc (Nat.le_refl _) _
 have bx0:Box wa w.heap.size 26 us:=by rw [← hwa,← hus]; exact Box.new w _ _
 rw [hus] at h
 obtain ⟨D0,hD0⟩:∃ D,(seqOf 9 DObj.cells x.objs).bulk=D:=⟨_,rfl⟩
 obtain ⟨D1,hD1⟩:∃ D,(Go.Proofs.YtgaadpkefncnmaaGreatDoor.names x.roots).bulk=D:=⟨_,rfl⟩
 obtain ⟨D2,hD2⟩:∃ D,(seqOf 3 DReal.cells x.reals).bulk=D:=⟨_,rfl⟩
 have hsum:bulks x.cells=D0 + D1 + D2:=by
  rw [x.cells_top]
  simp only [bulks,hD0,hD1,hD2]
  omega
 rw [hsum]
 rw [x.cells_top] at h
 have P0:=ReadV.start (h.step ba)
 have HUS:=hide hus
 have HB0:=hide ba
 clear h hus ba hsum
 go_enter Tryz.func15,Tryz.ntmps15
 obtain ⟨F0,l0⟩:=P0.call (p:=0) (by rfl) (v:=.slice A0 m0 c0) (by rw [← HUS.out]; rfl)
 have call0:=dszObjS x.objs _ F0 (left) wa l0 (by omega) (by omega)
 have cc0:wa.cell? ⟨w.heap.size,0,none⟩=some (.slice A0 m0 c0):=bx0.cell (by rw [← HUS.out]; rfl)
 rw [hD0] at call0
 have PN0:=P0.next
 have BX0:=hide bx0
 clear l0 P0 bx0
 by_cases hm0:(D0:Int)≤left
 ·rw [lft,if_pos hm0] at call0
  have q0:¬ (left - (D0:Int) < 0):=by omega
  go_wp2_with fail
  refine call0.mono ?_
  rintro e W0 ⟨rfl,b0⟩
  have P1:=PN0.step b0
  have bx1:=BX0.out.step b0
  have HB1:=hide (HB0.out.trans (b0.mono HB0.out.size))
  clear call0 PN0 b0 BX0 cc0
  obtain ⟨F1,l1⟩:=P1.call (p:=1) (by simp only [List.length_append,List.length_cons,List.length_nil]) (v:=.slice A1 m1 c1) (by rw [← HUS.out]; rfl)
  have call1:=dszNames x.roots _ F1 (left - D0) W0 l1 (by omega) (by omega)
  have cc1:W0.cell? ⟨w.heap.size,1,none⟩=some (.slice A1 m1 c1):=bx1.cell (by rw [← HUS.out]; rfl)
  rw [hD1] at call1
  have PN1:=P1.next
  have BX1:=hide bx1
  clear l1 P1 bx1
  by_cases hm1:(D1:Int)≤left - D0
  ·rw [lft,if_pos hm1] at call1
   have q1:¬ (left - D0 - (D1:Int) < 0):=by omega
   go_wp2_with fail
   refine call1.mono ?_
   rintro e W1 ⟨rfl,b1⟩
   have P2:=PN1.step b1
   have bx2:=BX1.out.step b1
   have HB2:=hide (HB1.out.trans (b1.mono HB1.out.size))
   clear call1 PN1 b1 BX1 cc1
   obtain ⟨F2,l2⟩:=P2.call (p:=2) (by simp only [List.length_append,List.length_cons,List.length_nil]) (v:=.slice A2 m2 c2) (by rw [← HUS.out]; rfl)
   have call2:=dszRealS x.reals _ F2 (left - D0 - D1) W1 l2 (by omega) (by omega)
   have cc2:W1.cell? ⟨w.heap.size,2,none⟩=some (.slice A2 m2 c2):=bx2.cell (by rw [← HUS.out]; rfl)
   rw [hD2] at call2
   have PN2:=P2.next
   have BX2:=hide bx2
   clear l2 P2 bx2
   by_cases hm2:(D2:Int)≤left - D0 - D1
   ·rw [lft,if_pos hm2] at call2
    have q2:¬ (left - D0 - D1 - (D2:Int) < 0):=by omega
    go_wp2_with fail
    refine call2.mono ?_
    rintro e W2 ⟨rfl,b2⟩
    have P3:=PN2.step b2
    have bx3:=BX2.out.step b2
    have HB3:=hide (HB2.out.trans (b2.mono HB2.out.size))
    clear call2 PN2 b2 BX2 cc2
    go_wp2_with fail
    go_ret
    exact ⟨ret_lft (by omega) (by omega),HB3.out⟩
   ·rw [lft,if_neg hm2] at call2
    go_wp2_with fail
    refine call2.mono ?_
    rintro e W2 ⟨rfl,b2⟩
    go_wp2_with fail
    go_ret
    exact ⟨ret_lno (by omega),HB2.out.trans (b2.mono HB2.out.size)⟩
  ·rw [lft,if_neg hm1] at call1
   go_wp2_with fail
   refine call1.mono ?_
   rintro e W1 ⟨rfl,b1⟩
   go_wp2_with fail
   go_ret
   exact ⟨ret_lno (by omega),HB1.out.trans (b1.mono HB1.out.size)⟩
 ·rw [lft,if_neg hm0] at call0
  go_wp2_with fail
  refine call0.mono ?_
  rintro e W0 ⟨rfl,b0⟩
  go_wp2_with fail
  go_ret
  exact ⟨ret_lno (by omega),HB0.out.trans (b0.mono HB0.out.size)⟩
theorem dszStore (x:DStore):SzA Tryz.prog 15 x.cells:=dszStore0 x
end Go.Proofs.YtgaadpkefncnmaaGreatDoor
