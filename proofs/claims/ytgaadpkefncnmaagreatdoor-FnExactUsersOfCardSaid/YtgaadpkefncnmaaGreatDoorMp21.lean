/-
  Parts of the proof: DSEq.
-/
import Derived.Test.YtgaadpkefncnmaaGreatDoorMp1
/-
  The laws' helpers 'eq' over structs and their rows.
-/
namespace Go.Proofs.YtgaadpkefncnmaaGreatDoor
open Go.RowKit
set_option linter.unusedVariables false
set_option linter.unusedSimpArgs false
theorem deqRaw (l:List Int):EqC Tryz.prog 27 (raw l):=fun v1 v2 F1 F2 w h1 h2=>eqBytes l v1 v2 w h1.rd.1 h2.rd.1
set_option maxRecDepth 20000 in
set_option maxHeartbeats 1600000 in
theorem deqNames0 (l:List (List Int)) (he:∀ x∈l,EqC Tryz.prog 27 (raw x)):EqC Tryz.prog 19 (seqOf 1 (fun n=>[raw n]) l):=by
 unfold seqOf
 intro v1 v2 F1 F2 w h1 h2
 obtain ⟨A,c,hv,hc1,hc2,hrd⟩:=h1.read
 obtain ⟨A',c',hv',hc1',hc2',hrd'⟩:=h2.read
 obtain ⟨N,hN⟩:∃ N,l.length=N:=⟨_,rfl⟩
 obtain ⟨g,hg⟩:∃ g:(List Int)→List Cel,(fun n=>[raw n])=g:=⟨_,rfl⟩
 have hgn:∀ x,(g x).length=1:=fun x=>by subst hg; rfl
 have hgx:∀ x,g x = [raw x]:=fun x=>by subst hg; rfl
 rw [hg] at hrd hrd'
 rw [hN] at hv hc1 hrd hv' hc1' hrd'
 unfold maxLen at hc2 hc2'
 have hlen:((N:Int) != (N:Int))=false:=by simp
 have HN:=hide hN
 have HRD:=hide hrd
 have HRD':=hide hrd'
 have HE:=hide he
 have HGN:=hide hgn
 have HGX:=hide hgx
 subst hv hv'
 clear hN hrd hrd' he hgn hg h1 h2 hgx
 go_enter Tryz.func19,Tryz.ntmps19
 go_wp2
 go_loopw [5] (fun i wr=>∃ j:Nat,j≤N∧i=.int .i64 j∧Below w.heap.size w wr) (fun i _=>N - (intOf i).toNat)
 case atStart=>exact ⟨0,Nat.zero_le _,rfl,Below.refl _ _⟩
 case round =>
  obtain ⟨j,hj,rfl,hbel⟩:=hrel
  by_cases hlt:j < N
  ·obtain ⟨b,off,us,G,rfl,P⟩:=HRD.out (by omega)
   obtain ⟨b',off',us',G',rfl,P'⟩:=HRD'.out (by omega)
   have hjn:j < l.length:=by rw [HN.out]; exact hlt
   have hlen2:j * 1=(cells g (l.take j)).length:=by rw [cells_len (sz:=1) HGN.out,List.length_take]; omega
   have hmem:l[j]∈l:=List.getElem_mem hjn
   rw [cells_split g l j,cells_drop g hjn] at P P'
   generalize l[j]=x at *
   rw [HGX.out x] at P P'
   simp only [List.cons_append,List.nil_append] at P P'
   obtain ⟨y1,G1,c1,l1⟩:=(P.step hbel).cell hlen2
   obtain ⟨y2,G2,c2,l2⟩:=(P'.step hbel).cell hlen2
   rw [Nat.mul_one] at c1 c2
   have hcall:=fun W (hb:Below wr.heap.size wr W)=>HE.out x hmem y1 y2 G1 G2 W (l1.step hb) (l2.step hb)
   have HB:=hide hbel
   have HCALL:=hide hcall
   have k0:(0:Int)≤(j:Int):=by omega
   have k1:(j:Int) < (N:Int):=by omega
   have k2:(j:Int).toNat=j:=by omega
   clear hbel hcall P P' l1 l2 hmem hlen2 hjn
   go_wp2
   go_still_tail 8,(by kernel_rfl)
   change wpList _ _ _ _ _ wr.drew
   clear k2
   have hd:Below wr.heap.size wr wr.drew:=(Below.refl _ _).drew
   have hc:=HCALL.out _ hd
   have HB2:Hid (Below w.heap.size w wr.drew):=hide HB.out.drew
   generalize wr.drew=wu at *
   clear HCALL hd c1 c2
   go_wp2_with fail
   refine hc.mono ?_
   rintro e w2 ⟨rfl,b2⟩
   go_wp2_with fail
   go_roundw
   case rel=>exact ⟨j + 1,by omega,by go_num,HB2.out.trans (b2.mono HB2.out.size)⟩
   case measure=>simp [intOf]; omega
  ·obtain rfl:j=N:=by omega
   have HB:=hide hbel
   clear hbel
   go_wp2
   go_ret
   exact ⟨rfl,HB.out⟩
theorem deqNames (l:List (List Int)):EqC Tryz.prog 19 (names l):=deqNames0 l fun x _=>deqRaw x
set_option maxRecDepth 20000 in
set_option maxHeartbeats 1600000 in
theorem deqTrees (l:List T) (he:∀ x∈l,EqA Tryz.prog 79 (T.cells x)):EqC Tryz.prog 137 (seqOf 4 T.cells l):=by
 unfold seqOf
 intro v1 v2 F1 F2 w h1 h2
 obtain ⟨A,c,hv,hc1,hc2,hrd⟩:=h1.read
 obtain ⟨A',c',hv',hc1',hc2',hrd'⟩:=h2.read
 obtain ⟨N,hN⟩:∃ N,l.length=N:=⟨_,rfl⟩
 obtain ⟨g,hg⟩:∃ g:T→List Cel,T.cells=g:=⟨_,rfl⟩
 have hgn:∀ x,(g x).length=4:=fun x=>by subst hg; rw [x.cells_eq]; rfl
 rw [hg] at hrd hrd' he
 rw [hN] at hv hc1 hrd hv' hc1' hrd'
 unfold maxLen at hc2 hc2'
 have hlen:((N:Int) != (N:Int))=false:=by simp
 have HN:=hide hN
 have HRD:=hide hrd
 have HRD':=hide hrd'
 have HE:=hide he
 have HGN:=hide hgn
 subst hv hv'
 clear hN hrd hrd' he hgn hg h1 h2
 go_enter Tryz.func137,Tryz.ntmps137
 go_wp2
 go_loopw [5] (fun i wr=>∃ j:Nat,j≤N∧i=.int .i64 j∧Below w.heap.size w wr) (fun i _=>N - (intOf i).toNat)
 case atStart=>exact ⟨0,Nat.zero_le _,rfl,Below.refl _ _⟩
 case round =>
  obtain ⟨j,hj,rfl,hbel⟩:=hrel
  by_cases hlt:j < N
  ·obtain ⟨b,off,us,G,rfl,P⟩:=HRD.out (by omega)
   obtain ⟨b',off',us',G',rfl,P'⟩:=HRD'.out (by omega)
   have hjn:j < l.length:=by rw [HN.out]; exact hlt
   have hlen2:j * 4=(cells g (l.take j)).length:=by rw [cells_len (sz:=4) HGN.out,List.length_take]; omega
   have hmem:l[j]∈l:=List.getElem_mem hjn
   rw [cells_split g l j,cells_drop g hjn] at P P'
   generalize l[j]=x at *
   obtain ⟨y1,G1,n1,c1,l1⟩:=(P.step hbel).mid hlen2 (HGN.out x)
   obtain ⟨y2,G2,n2,c2,l2⟩:=(P'.step hbel).mid hlen2 (HGN.out x)
   have s1:((Tryz.prog.info? 47).map (·.size))=some y1.length:=by rw [n1]; kernel_rfl
   have s2:((Tryz.prog.info? 47).map (·.size))=some y2.length:=by rw [n2]; kernel_rfl
   have hcall:=fun W (hb:Below wr.heap.size wr W)=>HE.out x hmem y1 y2 G1 G2 W (l1.step hb) (l2.step hb)
   have HB:=hide hbel
   have HCALL:=hide hcall
   have HC1:=hide c1
   have HC2:=hide c2
   have HS1:=hide s1
   have HS2:=hide s2
   have k0:(0:Int)≤(j:Int):=by omega
   have k1:(j:Int) < (N:Int):=by omega
   have k2:(j:Int).toNat=j:=by omega
   clear hbel hcall P P' l1 l2 hmem hlen2 hjn c1 c2 s1 s2 n1 n2
   go_wp2
   go_still_tail 8,(by kernel_rfl)
   refine wpStill_load_rng rfl _ _ rfl b (off + j * 4) rfl _ _ HC1.out Tryz.underlying47 rfl HS1.out ?_
   repeat still_step
   refine wpStill_load_rng rfl _ _ rfl b' (off' + j * 4) rfl _ _ HC2.out Tryz.underlying47 rfl HS2.out ?_
   refine wpStill_nil ?_
   change wpList _ _ _ _ _ wr.drew
   clear k2
   have hd:Below wr.heap.size wr wr.drew:=(Below.refl _ _).drew
   have hc:=HCALL.out _ hd
   have HB2:Hid (Below w.heap.size w wr.drew):=hide HB.out.drew
   clear HC1 HC2 HS1 HS2
   generalize wr.drew=wu at *
   clear HCALL hd
   go_wp2_with fail
   refine hc.mono ?_
   rintro e w2 ⟨rfl,b2⟩
   go_wp2_with fail
   go_roundw
   case rel=>exact ⟨j + 1,by omega,by go_num,HB2.out.trans (b2.mono HB2.out.size)⟩
   case measure=>simp [intOf]; omega
  ·obtain rfl:j=N:=by omega
   have HB:=hide hbel
   clear hbel
   go_wp2
   go_ret
   exact ⟨rfl,HB.out⟩
set_option maxRecDepth 20000 in
set_option maxHeartbeats 1600000 in
theorem deqTree0 (x:T) (IH:EqC Tryz.prog 137 (seqOf 4 T.cells x.kids)):EqA Tryz.prog 79 x.cells:=by
 intro us1 us2 F1 F2 w h1 h2
 have hd:=h1
 have hd2:=h2
 rw [x.cells_eq] at hd hd2
 obtain ⟨r0,G0,rfl,q0⟩:=hd.nums1
 obtain ⟨A1,m1,c1,r1,G1,rfl,q1⟩:=q0.seqs1
 obtain ⟨A2,m2,c2,r2,G2,rfl,q2⟩:=q1.seqs1
 obtain ⟨A3,m3,c3,r3,G3,rfl,q3⟩:=q2.seqs1
 obtain rfl:=q3.nil1
 clear q0 q1 q2 q3
 obtain ⟨r0x,G0x,rfl,q0x⟩:=hd2.nums1
 obtain ⟨A1x,m1x,c1x,r1x,G1x,rfl,q1x⟩:=q0x.seqs1
 obtain ⟨A2x,m2x,c2x,r2x,G2x,rfl,q2x⟩:=q1x.seqs1
 obtain ⟨A3x,m3x,c3x,r3x,G3x,rfl,q3x⟩:=q2x.seqs1
 obtain rfl:=q3x.nil1
 clear q0x q1x q2x q3x
 obtain ⟨us1,hus1⟩:∃ us:List Value,[.int .i64 x.kind,.slice A1 m1 c1,.slice A2 m2 c2,.slice A3 m3 c3]=us:=⟨_,rfl⟩
 obtain ⟨us2,hus2⟩:∃ us:List Value,[.int .i64 x.kind,.slice A1x m1x c1x,.slice A2x m2x c2x,.slice A3x m3x c3x]=us:=⟨_,rfl⟩
 obtain ⟨wa,hwa⟩:∃ wa,(w.alloc (.cells #[.int .i64 x.kind,.slice A1 m1 c1,.slice A2 m2 c2,.slice A3 m3 c3] 47)).alloc (.cells #[.int .i64 x.kind,.slice A1x m1x c1x,.slice A2x m2x c2x,.slice A3x m3x c3x] 47)=wa:=⟨_,rfl⟩
 have ba:Below w.heap.size w wa:=by rw [← hwa]; exact ((Below.refl _ _).alloc (Nat.le_refl _) _).alloc (by simp) _
 have bx0:Box wa w.heap.size 47 us1:=by rw [← hwa,← hus1]; exact (Box.new w _ _).step ((Below.refl _ _).alloc (Nat.le_refl _) _)
 have by0:Box wa (w.heap.size + 1) 47 us2:=by rw [← hwa,← hus2]; have:=Box.new (w.alloc (.cells #[.int .i64 x.kind,.slice A1 m1 c1,.slice A2 m2 c2,.slice A3 m3 c3] 47)) [.int .i64 x.kind,.slice A1x m1x c1x,.slice A2x m2x c2x,.slice A3x m3x c3x] 47; rw [World.size_alloc] at this; exact this
 rw [hus1] at h1
 rw [hus2] at h2
 rw [x.cells_top] at h1 h2
 have ne0:(x.kind != x.kind)=false:=by simp
 have P0:=ReadV.start (h1.step ba)
 have R0:=ReadV.start (h2.step ba)
 have HU1:=hide hus1
 have HU2:=hide hus2
 have HB0:=hide ba
 have HIH:=hide IH
 clear IH
 clear h1 h2 hus1 hus2 ba
 go_enter Tryz.func79,Tryz.ntmps79
 have cc0:wa.cell? ⟨w.heap.size,0,none⟩=some (.int .i64 x.kind):=bx0.cell (by rw [← HU1.out]; rfl)
 have cd0:wa.cell? ⟨w.heap.size + 1,0,none⟩=some (.int .i64 x.kind):=by0.cell (by rw [← HU2.out]; rfl)
 have P1:=P0.next
 have R1:=R0.next
 clear P0 R0
 have cc1:wa.cell? ⟨w.heap.size,1,none⟩=some (.slice A1 m1 c1):=bx0.cell (by rw [← HU1.out]; rfl)
 have cd1:wa.cell? ⟨w.heap.size + 1,1,none⟩=some (.slice A1x m1x c1x):=by0.cell (by rw [← HU2.out]; rfl)
 obtain ⟨F1,l1⟩:=P1.call (p:=1) (by simp only [List.length_append,List.length_cons,List.length_nil]) (v:=.slice A1 m1 c1) (by rw [← HU1.out]; rfl)
 obtain ⟨F1x,l1x⟩:=R1.call (p:=1) (by simp only [List.length_append,List.length_cons,List.length_nil]) (v:=.slice A1x m1x c1x) (by rw [← HU2.out]; rfl)
 have call1:=deqRaw x.data _ _ F1 F1x wa l1 l1x
 have CL1:=hide call1
 have PN1:=P1.next
 have RN1:=R1.next
 have BX1:=hide bx0
 have BY1:=hide by0
 clear call1 l1 l1x P1 R1 bx0 by0
 go_wp2_with fail
 refine CL1.out.mono ?_
 rintro e W1 ⟨rfl,b1⟩
 have P2:=PN1.step b1
 have R2:=RN1.step b1
 have bx2:=BX1.out.step b1
 have by2:=BY1.out.step b1
 have HB2:=hide (HB0.out.trans (b1.mono HB0.out.size))
 clear CL1 PN1 RN1 b1 BX1 BY1 cc0 cd0 cc1 cd1
 have cc2:W1.cell? ⟨w.heap.size,2,none⟩=some (.slice A2 m2 c2):=bx2.cell (by rw [← HU1.out]; rfl)
 have cd2:W1.cell? ⟨w.heap.size + 1,2,none⟩=some (.slice A2x m2x c2x):=by2.cell (by rw [← HU2.out]; rfl)
 obtain ⟨F2,l2⟩:=P2.call (p:=2) (by simp only [List.length_append,List.length_cons,List.length_nil]) (v:=.slice A2 m2 c2) (by rw [← HU1.out]; rfl)
 obtain ⟨F2x,l2x⟩:=R2.call (p:=2) (by simp only [List.length_append,List.length_cons,List.length_nil]) (v:=.slice A2x m2x c2x) (by rw [← HU2.out]; rfl)
 have call2:=deqNames x.names _ _ F2 F2x W1 l2 l2x
 have CL2:=hide call2
 have PN2:=P2.next
 have RN2:=R2.next
 have BX2:=hide bx2
 have BY2:=hide by2
 clear call2 l2 l2x P2 R2 bx2 by2
 go_wp2_with fail
 refine CL2.out.mono ?_
 rintro e W2 ⟨rfl,b2⟩
 have P3:=PN2.step b2
 have R3:=RN2.step b2
 have bx3:=BX2.out.step b2
 have by3:=BY2.out.step b2
 have HB3:=hide (HB2.out.trans (b2.mono HB2.out.size))
 clear CL2 PN2 RN2 b2 BX2 BY2 cc2 cd2
 have cc3:W2.cell? ⟨w.heap.size,3,none⟩=some (.slice A3 m3 c3):=bx3.cell (by rw [← HU1.out]; rfl)
 have cd3:W2.cell? ⟨w.heap.size + 1,3,none⟩=some (.slice A3x m3x c3x):=by3.cell (by rw [← HU2.out]; rfl)
 obtain ⟨F3,l3⟩:=P3.call (p:=3) (by simp only [List.length_append,List.length_cons,List.length_nil]) (v:=.slice A3 m3 c3) (by rw [← HU1.out]; rfl)
 obtain ⟨F3x,l3x⟩:=R3.call (p:=3) (by simp only [List.length_append,List.length_cons,List.length_nil]) (v:=.slice A3x m3x c3x) (by rw [← HU2.out]; rfl)
 have call3:=HIH.out _ _ F3 F3x W2 l3 l3x
 have CL3:=hide call3
 have PN3:=P3.next
 have RN3:=R3.next
 have BX3:=hide bx3
 have BY3:=hide by3
 clear call3 l3 l3x P3 R3 bx3 by3
 go_wp2_with fail
 refine CL3.out.mono ?_
 rintro e W3 ⟨rfl,b3⟩
 have P4:=PN3.step b3
 have R4:=RN3.step b3
 have bx4:=BX3.out.step b3
 have by4:=BY3.out.step b3
 have HB4:=hide (HB3.out.trans (b3.mono HB3.out.size))
 clear CL3 PN3 RN3 b3 BX3 BY3 cc3 cd3
 go_wp2_with fail
 go_ret
 exact ⟨rfl,HB4.out⟩
theorem deqTree:∀ t:T,EqA Tryz.prog 79 t.cells:=by
 intro t
 induction t using T.ind with
 | h k d ns ks ih=>exact deqTree0 _ (deqTrees ks ih)
set_option maxRecDepth 20000 in
set_option maxHeartbeats 1600000 in
theorem deqReal0 (x:DReal):EqA Tryz.prog 126 x.cells:=by
 intro us1 us2 F1 F2 w h1 h2
 have hd:=h1
 have hd2:=h2
 rw [x.cells_eq] at hd hd2
 obtain ⟨A0,m0,c0,r0,G0,rfl,q0⟩:=hd.seqs1
 obtain ⟨A1,m1,c1,r1,G1,rfl,q1⟩:=q0.seqs1
 obtain ⟨A2,m2,c2,r2,G2,rfl,q2⟩:=q1.seqs1
 obtain rfl:=q2.nil1
 clear q0 q1 q2
 obtain ⟨A0x,m0x,c0x,r0x,G0x,rfl,q0x⟩:=hd2.seqs1
 obtain ⟨A1x,m1x,c1x,r1x,G1x,rfl,q1x⟩:=q0x.seqs1
 obtain ⟨A2x,m2x,c2x,r2x,G2x,rfl,q2x⟩:=q1x.seqs1
 obtain rfl:=q2x.nil1
 clear q0x q1x q2x
 obtain ⟨us1,hus1⟩:∃ us:List Value,[.slice A0 m0 c0,.slice A1 m1 c1,.slice A2 m2 c2]=us:=⟨_,rfl⟩
 obtain ⟨us2,hus2⟩:∃ us:List Value,[.slice A0x m0x c0x,.slice A1x m1x c1x,.slice A2x m2x c2x]=us:=⟨_,rfl⟩
 obtain ⟨wa,hwa⟩:∃ wa,(w.alloc (.cells #[.slice A0 m0 c0,.slice A1 m1 c1,.slice A2 m2 c2] 106)).alloc (.cells #[.slice A0x m0x c0x,.slice A1x m1x c1x,.slice A2x m2x c2x] 106)=wa:=⟨_,rfl⟩
 have ba:Below w.heap.size w wa:=by rw [← hwa]; exact ((Below.refl _ _).alloc (Nat.le_refl _) _).alloc (by simp) _
 have bx0:Box wa w.heap.size 106 us1:=by rw [← hwa,← hus1]; exact (Box.new w _ _).step ((Below.refl _ _).alloc (Nat.le_refl _) _)
 have by0:Box wa (w.heap.size + 1) 106 us2:=by rw [← hwa,← hus2]; have:=Box.new (w.alloc (.cells #[.slice A0 m0 c0,.slice A1 m1 c1,.slice A2 m2 c2] 106)) [.slice A0x m0x c0x,.slice A1x m1x c1x,.slice A2x m2x c2x] 106; rw [World.size_alloc] at this; exact this
 rw [hus1] at h1
 rw [hus2] at h2
 rw [x.cells_top] at h1 h2
 have P0:=ReadV.start (h1.step ba)
 have R0:=ReadV.start (h2.step ba)
 have HU1:=hide hus1
 have HU2:=hide hus2
 have HB0:=hide ba
 clear h1 h2 hus1 hus2 ba
 go_enter Tryz.func126,Tryz.ntmps126
 have cc0:wa.cell? ⟨w.heap.size,0,none⟩=some (.slice A0 m0 c0):=bx0.cell (by rw [← HU1.out]; rfl)
 have cd0:wa.cell? ⟨w.heap.size + 1,0,none⟩=some (.slice A0x m0x c0x):=by0.cell (by rw [← HU2.out]; rfl)
 obtain ⟨F0,l0⟩:=P0.call (p:=0) (by rfl) (v:=.slice A0 m0 c0) (by rw [← HU1.out]; rfl)
 obtain ⟨F0x,l0x⟩:=R0.call (p:=0) (by rfl) (v:=.slice A0x m0x c0x) (by rw [← HU2.out]; rfl)
 have call0:=deqRaw x.drv _ _ F0 F0x wa l0 l0x
 have CL0:=hide call0
 have PN0:=P0.next
 have RN0:=R0.next
 have BX0:=hide bx0
 have BY0:=hide by0
 clear call0 l0 l0x P0 R0 bx0 by0
 go_wp2_with fail
 refine CL0.out.mono ?_
 rintro e W0 ⟨rfl,b0⟩
 have P1:=PN0.step b0
 have R1:=RN0.step b0
 have bx1:=BX0.out.step b0
 have by1:=BY0.out.step b0
 have HB1:=hide (HB0.out.trans (b0.mono HB0.out.size))
 clear CL0 PN0 RN0 b0 BX0 BY0 cc0 cd0
 have cc1:W0.cell? ⟨w.heap.size,1,none⟩=some (.slice A1 m1 c1):=bx1.cell (by rw [← HU1.out]; rfl)
 have cd1:W0.cell? ⟨w.heap.size + 1,1,none⟩=some (.slice A1x m1x c1x):=by1.cell (by rw [← HU2.out]; rfl)
 obtain ⟨F1,l1⟩:=P1.call (p:=1) (by simp only [List.length_append,List.length_cons,List.length_nil]) (v:=.slice A1 m1 c1) (by rw [← HU1.out]; rfl)
 obtain ⟨F1x,l1x⟩:=R1.call (p:=1) (by simp only [List.length_append,List.length_cons,List.length_nil]) (v:=.slice A1x m1x c1x) (by rw [← HU2.out]; rfl)
 have call1:=deqRaw x.out _ _ F1 F1x W0 l1 l1x
 have CL1:=hide call1
 have PN1:=P1.next
 have RN1:=R1.next
 have BX1:=hide bx1
 have BY1:=hide by1
 clear call1 l1 l1x P1 R1 bx1 by1
 go_wp2_with fail
 refine CL1.out.mono ?_
 rintro e W1 ⟨rfl,b1⟩
 have P2:=PN1.step b1
 have R2:=RN1.step b1
 have bx2:=BX1.out.step b1
 have by2:=BY1.out.step b1
 have HB2:=hide (HB1.out.trans (b1.mono HB1.out.size))
 clear CL1 PN1 RN1 b1 BX1 BY1 cc1 cd1
 have cc2:W1.cell? ⟨w.heap.size,2,none⟩=some (.slice A2 m2 c2):=bx2.cell (by rw [← HU1.out]; rfl)
 have cd2:W1.cell? ⟨w.heap.size + 1,2,none⟩=some (.slice A2x m2x c2x):=by2.cell (by rw [← HU2.out]; rfl)
 obtain ⟨F2,l2⟩:=P2.call (p:=2) (by simp only [List.length_append,List.length_cons,List.length_nil]) (v:=.slice A2 m2 c2) (by rw [← HU1.out]; rfl)
 obtain ⟨F2x,l2x⟩:=R2.call (p:=2) (by simp only [List.length_append,List.length_cons,List.length_nil]) (v:=.slice A2x m2x c2x) (by rw [← HU2.out]; rfl)
 have call2:=deqRaw x.path _ _ F2 F2x W1 l2 l2x
 have CL2:=hide call2
 have PN2:=P2.next
 have RN2:=R2.next
 have BX2:=hide bx2
 have BY2:=hide by2
 clear call2 l2 l2x P2 R2 bx2 by2
 go_wp2_with fail
 refine CL2.out.mono ?_
 rintro e W2 ⟨rfl,b2⟩
 have P3:=PN2.step b2
 have R3:=RN2.step b2
 have bx3:=BX2.out.step b2
 have by3:=BY2.out.step b2
 have HB3:=hide (HB2.out.trans (b2.mono HB2.out.size))
 clear CL2 PN2 RN2 b2 BX2 BY2 cc2 cd2
 go_wp2_with fail
 go_ret
 exact ⟨rfl,HB3.out⟩
theorem deqReal (x:DReal):EqA Tryz.prog 126 x.cells:=deqReal0 x
set_option maxRecDepth 20000 in
set_option maxHeartbeats 1600000 in
theorem deqRealS0 (l:List DReal) (he:∀ x∈l,EqA Tryz.prog 126 (DReal.cells x)):EqC Tryz.prog 67 (seqOf 3 DReal.cells l):=by
 unfold seqOf
 intro v1 v2 F1 F2 w h1 h2
 obtain ⟨A,c,hv,hc1,hc2,hrd⟩:=h1.read
 obtain ⟨A',c',hv',hc1',hc2',hrd'⟩:=h2.read
 obtain ⟨N,hN⟩:∃ N,l.length=N:=⟨_,rfl⟩
 obtain ⟨g,hg⟩:∃ g:DReal→List Cel,DReal.cells=g:=⟨_,rfl⟩
 have hgn:∀ x,(g x).length=3:=fun x=>by subst hg; rw [x.cells_eq]; rfl
 rw [hg] at hrd hrd' he
 rw [hN] at hv hc1 hrd hv' hc1' hrd'
 unfold maxLen at hc2 hc2'
 have hlen:((N:Int) != (N:Int))=false:=by simp
 have HN:=hide hN
 have HRD:=hide hrd
 have HRD':=hide hrd'
 have HE:=hide he
 have HGN:=hide hgn
 subst hv hv'
 clear hN hrd hrd' he hgn hg h1 h2
 go_enter Tryz.func67,Tryz.ntmps67
 go_wp2
 go_loopw [5] (fun i wr=>∃ j:Nat,j≤N∧i=.int .i64 j∧Below w.heap.size w wr) (fun i _=>N - (intOf i).toNat)
 case atStart=>exact ⟨0,Nat.zero_le _,rfl,Below.refl _ _⟩
 case round =>
  obtain ⟨j,hj,rfl,hbel⟩:=hrel
  by_cases hlt:j < N
  ·obtain ⟨b,off,us,G,rfl,P⟩:=HRD.out (by omega)
   obtain ⟨b',off',us',G',rfl,P'⟩:=HRD'.out (by omega)
   have hjn:j < l.length:=by rw [HN.out]; exact hlt
   have hlen2:j * 3=(cells g (l.take j)).length:=by rw [cells_len (sz:=3) HGN.out,List.length_take]; omega
   have hmem:l[j]∈l:=List.getElem_mem hjn
   rw [cells_split g l j,cells_drop g hjn] at P P'
   generalize l[j]=x at *
   obtain ⟨y1,G1,n1,c1,l1⟩:=(P.step hbel).mid hlen2 (HGN.out x)
   obtain ⟨y2,G2,n2,c2,l2⟩:=(P'.step hbel).mid hlen2 (HGN.out x)
   have s1:((Tryz.prog.info? 106).map (·.size))=some y1.length:=by rw [n1]; kernel_rfl
   have s2:((Tryz.prog.info? 106).map (·.size))=some y2.length:=by rw [n2]; kernel_rfl
   have hcall:=fun W (hb:Below wr.heap.size wr W)=>HE.out x hmem y1 y2 G1 G2 W (l1.step hb) (l2.step hb)
   have HB:=hide hbel
   have HCALL:=hide hcall
   have HC1:=hide c1
   have HC2:=hide c2
   have HS1:=hide s1
   have HS2:=hide s2
   have k0:(0:Int)≤(j:Int):=by omega
   have k1:(j:Int) < (N:Int):=by omega
   have k2:(j:Int).toNat=j:=by omega
   clear hbel hcall P P' l1 l2 hmem hlen2 hjn c1 c2 s1 s2 n1 n2
   go_wp2
   go_still_tail 8,(by kernel_rfl)
   refine wpStill_load_rng rfl _ _ rfl b (off + j * 3) rfl _ _ HC1.out Tryz.underlying106 rfl HS1.out ?_
   repeat still_step
   refine wpStill_load_rng rfl _ _ rfl b' (off' + j * 3) rfl _ _ HC2.out Tryz.underlying106 rfl HS2.out ?_
   refine wpStill_nil ?_
   change wpList _ _ _ _ _ wr.drew
   clear k2
   have hd:Below wr.heap.size wr wr.drew:=(Below.refl _ _).drew
   have hc:=HCALL.out _ hd
   have HB2:Hid (Below w.heap.size w wr.drew):=hide HB.out.drew
   clear HC1 HC2 HS1 HS2
   generalize wr.drew=wu at *
   clear HCALL hd
   go_wp2_with fail
   refine hc.mono ?_
   rintro e w2 ⟨rfl,b2⟩
   go_wp2_with fail
   go_roundw
   case rel=>exact ⟨j + 1,by omega,by go_num,HB2.out.trans (b2.mono HB2.out.size)⟩
   case measure=>simp [intOf]; omega
  ·obtain rfl:j=N:=by omega
   have HB:=hide hbel
   clear hbel
   go_wp2
   go_ret
   exact ⟨rfl,HB.out⟩
theorem deqRealS (l:List DReal):EqC Tryz.prog 67 (seqOf 3 DReal.cells l):=deqRealS0 l fun x _=>deqReal x
set_option maxRecDepth 20000 in
set_option maxHeartbeats 1600000 in
theorem deqObj0 (x:DObj):EqA Tryz.prog 35 x.cells:=by
 intro us1 us2 F1 F2 w h1 h2
 have hd:=h1
 have hd2:=h2
 rw [x.cells_eq] at hd hd2
 obtain ⟨A0,m0,c0,r0,G0,rfl,q0⟩:=hd.seqs1
 obtain ⟨r1,G1,rfl,q1⟩:=q0.nums1
 obtain ⟨r2,G2,rfl,q2⟩:=q1.nums1
 obtain ⟨A3,m3,c3,r3,G3,rfl,q3⟩:=q2.seqs1
 obtain ⟨A4,m4,c4,r4,G4,rfl,q4⟩:=q3.seqs1
 obtain ⟨A5,m5,c5,r5,G5,rfl,q5⟩:=q4.seqs1
 obtain ⟨A6,m6,c6,r6,G6,rfl,q6⟩:=q5.seqs1
 obtain ⟨A7,m7,c7,r7,G7,rfl,q7⟩:=q6.seqs1
 obtain ⟨A8,m8,c8,r8,G8,rfl,q8⟩:=q7.seqs1
 obtain rfl:=q8.nil1
 clear q0 q1 q2 q3 q4 q5 q6 q7 q8
 obtain ⟨A0x,m0x,c0x,r0x,G0x,rfl,q0x⟩:=hd2.seqs1
 obtain ⟨r1x,G1x,rfl,q1x⟩:=q0x.nums1
 obtain ⟨r2x,G2x,rfl,q2x⟩:=q1x.nums1
 obtain ⟨A3x,m3x,c3x,r3x,G3x,rfl,q3x⟩:=q2x.seqs1
 obtain ⟨A4x,m4x,c4x,r4x,G4x,rfl,q4x⟩:=q3x.seqs1
 obtain ⟨A5x,m5x,c5x,r5x,G5x,rfl,q5x⟩:=q4x.seqs1
 obtain ⟨A6x,m6x,c6x,r6x,G6x,rfl,q6x⟩:=q5x.seqs1
 obtain ⟨A7x,m7x,c7x,r7x,G7x,rfl,q7x⟩:=q6x.seqs1
 obtain ⟨A8x,m8x,c8x,r8x,G8x,rfl,q8x⟩:=q7x.seqs1
 obtain rfl:=q8x.nil1
 clear q0x q1x q2x q3x q4x q5x q6x q7x q8x
 obtain ⟨us1,hus1⟩:∃ us:List Value,[.slice A0 m0 c0,.int .i64 x.kind,.int .i64 x.tree.kind,.slice A3 m3 c3,.slice A4 m4 c4,.slice A5 m5 c5,.slice A6 m6 c6,.slice A7 m7 c7,.slice A8 m8 c8]=us:=⟨_,rfl⟩
 obtain ⟨us2,hus2⟩:∃ us:List Value,[.slice A0x m0x c0x,.int .i64 x.kind,.int .i64 x.tree.kind,.slice A3x m3x c3x,.slice A4x m4x c4x,.slice A5x m5x c5x,.slice A6x m6x c6x,.slice A7x m7x c7x,.slice A8x m8x c8x]=us:=⟨_,rfl⟩
 obtain ⟨wa,hwa⟩:∃ wa,(w.alloc (.cells #[.slice A0 m0 c0,.int .i64 x.kind,.int .i64 x.tree.kind,.slice A3 m3 c3,.slice A4 m4 c4,.slice A5 m5 c5,.slice A6 m6 c6,.slice A7 m7 c7,.slice A8 m8 c8] 49)).alloc (.cells #[.slice A0x m0x c0x,.int .i64 x.kind,.int .i64 x.tree.kind,.slice A3x m3x c3x,.slice A4x m4x c4x,.slice A5x m5x c5x,.slice A6x m6x c6x,.slice A7x m7x c7x,.slice A8x m8x c8x] 49)=wa:=⟨_,rfl⟩
 have ba:Below w.heap.size w wa:=by rw [← hwa]; exact ((Below.refl _ _).alloc (Nat.le_refl _) _).alloc (by simp) _
 have bx0:Box wa w.heap.size 49 us1:=by rw [← hwa,← hus1]; exact (Box.new w _ _).step ((Below.refl _ _).alloc (Nat.le_refl _) _)
 have by0:Box wa (w.heap.size + 1) 49 us2:=by rw [← hwa,← hus2]; have:=Box.new (w.alloc (.cells #[.slice A0 m0 c0,.int .i64 x.kind,.int .i64 x.tree.kind,.slice A3 m3 c3,.slice A4 m4 c4,.slice A5 m5 c5,.slice A6 m6 c6,.slice A7 m7 c7,.slice A8 m8 c8] 49)) [.slice A0x m0x c0x,.int .i64 x.kind,.int .i64 x.tree.kind,.slice A3x m3x c3x,.slice A4x m4x c4x,.slice A5x m5x c5x,.slice A6x m6x c6x,.slice A7x m7x c7x,.slice A8x m8x c8x] 49; rw [World.size_alloc] at this; exact this
 rw [hus1] at h1
 rw [hus2] at h2
 rw [x.cells_top] at h1 h2
 have ne1:(x.kind != x.kind)=false:=by simp
 have P0:=ReadV.start (h1.step ba)
 have R0:=ReadV.start (h2.step ba)
 have HU1:=hide hus1
 have HU2:=hide hus2
 have HB0:=hide ba
 clear h1 h2 hus1 hus2 ba
 go_enter Tryz.func35,Tryz.ntmps35
 have cc0:wa.cell? ⟨w.heap.size,0,none⟩=some (.slice A0 m0 c0):=bx0.cell (by rw [← HU1.out]; rfl)
 have cd0:wa.cell? ⟨w.heap.size + 1,0,none⟩=some (.slice A0x m0x c0x):=by0.cell (by rw [← HU2.out]; rfl)
 obtain ⟨F0,l0⟩:=P0.call (p:=0) (by rfl) (v:=.slice A0 m0 c0) (by rw [← HU1.out]; rfl)
 obtain ⟨F0x,l0x⟩:=R0.call (p:=0) (by rfl) (v:=.slice A0x m0x c0x) (by rw [← HU2.out]; rfl)
 have call0:=deqRaw x.name _ _ F0 F0x wa l0 l0x
 have CL0:=hide call0
 have PN0:=P0.next
 have RN0:=R0.next
 have BX0:=hide bx0
 have BY0:=hide by0
 clear call0 l0 l0x P0 R0 bx0 by0
 go_wp2_with fail
 refine CL0.out.mono ?_
 rintro e W0 ⟨rfl,b0⟩
 have P1:=PN0.step b0
 have R1:=RN0.step b0
 have bx1:=BX0.out.step b0
 have by1:=BY0.out.step b0
 have HB1:=hide (HB0.out.trans (b0.mono HB0.out.size))
 clear CL0 PN0 RN0 b0 BX0 BY0 cc0 cd0
 have cc1:W0.cell? ⟨w.heap.size,1,none⟩=some (.int .i64 x.kind):=bx1.cell (by rw [← HU1.out]; rfl)
 have cd1:W0.cell? ⟨w.heap.size + 1,1,none⟩=some (.int .i64 x.kind):=by1.cell (by rw [← HU2.out]; rfl)
 have P2:=P1.next
 have R2:=R1.next
 clear P1 R1
 obtain ⟨F2,l2⟩:=P2.mid (p:=2) (n:=4) (by simp only [List.length_append,List.length_cons,List.length_nil]) (by rw [T.cells_len]) (ms:=[.int .i64 x.tree.kind,.slice A3 m3 c3,.slice A4 m4 c4,.slice A5 m5 c5]) (by rw [← HU1.out]; rfl)
 obtain ⟨F2x,l2x⟩:=R2.mid (p:=2) (n:=4) (by simp only [List.length_append,List.length_cons,List.length_nil]) (by rw [T.cells_len]) (ms:=[.int .i64 x.tree.kind,.slice A3x m3x c3x,.slice A4x m4x c4x,.slice A5x m5x c5x]) (by rw [← HU2.out]; rfl)
 have call2:=deqTree x.tree [.int .i64 x.tree.kind,.slice A3 m3 c3,.slice A4 m4 c4,.slice A5 m5 c5] [.int .i64 x.tree.kind,.slice A3x m3x c3x,.slice A4x m4x c4x,.slice A5x m5x c5x] F2 F2x W0 l2 l2x
 have RG2:Hid (W0.rangeAt w.heap.size 2 [.int .i64 x.tree.kind,.slice A3 m3 c3,.slice A4 m4 c4,.slice A5 m5 c5]):=hide (by have:=bx1.mid 2 4; rw [← HU1.out] at this; exact this)
 have RH2:Hid (W0.rangeAt (w.heap.size + 1) 2 [.int .i64 x.tree.kind,.slice A3x m3x c3x,.slice A4x m4x c4x,.slice A5x m5x c5x]):=hide (by have:=by1.mid 2 4; rw [← HU2.out] at this; exact this)
 have CL2:=hide call2
 have PN2:=P2.skip
 have RN2:=R2.skip
 have BX2:=hide bx1
 have BY2:=hide by1
 clear call2 l2 l2x P2 R2 bx1 by1
 go_wp2_with (first | ((with_reducible refine at_slot 17 ?_); refine wpList_load_mid rfl _ _ rfl w.heap.size 2 rfl _ _ RG2.out Tryz.underlying47 rfl (by kernel_rfl) ?_) | ((with_reducible refine at_slot 19 ?_); refine wpList_load_mid rfl _ _ rfl (w.heap.size + 1) 2 rfl _ _ RH2.out Tryz.underlying47 rfl (by kernel_rfl) ?_))
 refine CL2.out.mono ?_
 rintro e W2 ⟨rfl,b2⟩
 have P3:=PN2.step b2
 have R3:=RN2.step b2
 have bx3:=BX2.out.step b2
 have by3:=BY2.out.step b2
 have HB3:=hide (HB1.out.trans (b2.mono HB1.out.size))
 clear CL2 PN2 RN2 b2 BX2 BY2 cc1 cd1 RG2 RH2
 have cc3:W2.cell? ⟨w.heap.size,6,none⟩=some (.slice A6 m6 c6):=bx3.cell (by rw [← HU1.out]; rfl)
 have cd3:W2.cell? ⟨w.heap.size + 1,6,none⟩=some (.slice A6x m6x c6x):=by3.cell (by rw [← HU2.out]; rfl)
 obtain ⟨F3,l3⟩:=P3.call (p:=6) (by simp only [List.length_append,List.length_cons,List.length_nil,T.cells_len]) (v:=.slice A6 m6 c6) (by rw [← HU1.out]; rfl)
 obtain ⟨F3x,l3x⟩:=R3.call (p:=6) (by simp only [List.length_append,List.length_cons,List.length_nil,T.cells_len]) (v:=.slice A6x m6x c6x) (by rw [← HU2.out]; rfl)
 have call3:=deqNames x.refs _ _ F3 F3x W2 l3 l3x
 have CL3:=hide call3
 have PN3:=P3.next
 have RN3:=R3.next
 have BX3:=hide bx3
 have BY3:=hide by3
 clear call3 l3 l3x P3 R3 bx3 by3
 go_wp2_with fail
 refine CL3.out.mono ?_
 rintro e W3 ⟨rfl,b3⟩
 have P4:=PN3.step b3
 have R4:=RN3.step b3
 have bx4:=BX3.out.step b3
 have by4:=BY3.out.step b3
 have HB4:=hide (HB3.out.trans (b3.mono HB3.out.size))
 clear CL3 PN3 RN3 b3 BX3 BY3 cc3 cd3
 have cc4:W3.cell? ⟨w.heap.size,7,none⟩=some (.slice A7 m7 c7):=bx4.cell (by rw [← HU1.out]; rfl)
 have cd4:W3.cell? ⟨w.heap.size + 1,7,none⟩=some (.slice A7x m7x c7x):=by4.cell (by rw [← HU2.out]; rfl)
 obtain ⟨F4,l4⟩:=P4.call (p:=7) (by simp only [List.length_append,List.length_cons,List.length_nil,T.cells_len]) (v:=.slice A7 m7 c7) (by rw [← HU1.out]; rfl)
 obtain ⟨F4x,l4x⟩:=R4.call (p:=7) (by simp only [List.length_append,List.length_cons,List.length_nil,T.cells_len]) (v:=.slice A7x m7x c7x) (by rw [← HU2.out]; rfl)
 have call4:=deqRaw x.frm _ _ F4 F4x W3 l4 l4x
 have CL4:=hide call4
 have PN4:=P4.next
 have RN4:=R4.next
 have BX4:=hide bx4
 have BY4:=hide by4
 clear call4 l4 l4x P4 R4 bx4 by4
 go_wp2_with fail
 refine CL4.out.mono ?_
 rintro e W4 ⟨rfl,b4⟩
 have P5:=PN4.step b4
 have R5:=RN4.step b4
 have bx5:=BX4.out.step b4
 have by5:=BY4.out.step b4
 have HB5:=hide (HB4.out.trans (b4.mono HB4.out.size))
 clear CL4 PN4 RN4 b4 BX4 BY4 cc4 cd4
 have cc5:W4.cell? ⟨w.heap.size,8,none⟩=some (.slice A8 m8 c8):=bx5.cell (by rw [← HU1.out]; rfl)
 have cd5:W4.cell? ⟨w.heap.size + 1,8,none⟩=some (.slice A8x m8x c8x):=by5.cell (by rw [← HU2.out]; rfl)
 obtain ⟨F5,l5⟩:=P5.call (p:=8) (by simp only [List.length_append,List.length_cons,List.length_nil,T.cells_len]) (v:=.slice A8 m8 c8) (by rw [← HU1.out]; rfl)
 obtain ⟨F5x,l5x⟩:=R5.call (p:=8) (by simp only [List.length_append,List.length_cons,List.length_nil,T.cells_len]) (v:=.slice A8x m8x c8x) (by rw [← HU2.out]; rfl)
 have call5:=deqRaw x.out _ _ F5 F5x W4 l5 l5x
 have CL5:=hide call5
 have PN5:=P5.next
 have RN5:=R5.next
 have BX5:=hide bx5
 have BY5:=hide by5
 clear call5 l5 l5x P5 R5 bx5 by5
 go_wp2_with fail
 refine CL5.out.mono ?_
 rintro e W5 ⟨rfl,b5⟩
 have P6:=PN5.step b5
 have R6:=RN5.step b5
 have bx6:=BX5.out.step b5
 have by6:=BY5.out.step b5
 have HB6:=hide (HB5.out.trans (b5.mono HB5.out.size))
 clear CL5 PN5 RN5 b5 BX5 BY5 cc5 cd5
 go_wp2_with fail
 go_ret
 exact ⟨rfl,HB6.out⟩
theorem deqObj (x:DObj):EqA Tryz.prog 35 x.cells:=deqObj0 x
set_option maxRecDepth 20000 in
set_option maxHeartbeats 1600000 in
theorem deqObjS0 (l:List DObj) (he:∀ x∈l,EqA Tryz.prog 35 (DObj.cells x)):EqC Tryz.prog 66 (seqOf 9 DObj.cells l):=by
 unfold seqOf
 intro v1 v2 F1 F2 w h1 h2
 obtain ⟨A,c,hv,hc1,hc2,hrd⟩:=h1.read
 obtain ⟨A',c',hv',hc1',hc2',hrd'⟩:=h2.read
 obtain ⟨N,hN⟩:∃ N,l.length=N:=⟨_,rfl⟩
 obtain ⟨g,hg⟩:∃ g:DObj→List Cel,DObj.cells=g:=⟨_,rfl⟩
 have hgn:∀ x,(g x).length=9:=fun x=>by subst hg; rw [x.cells_eq]; rfl
 rw [hg] at hrd hrd' he
 rw [hN] at hv hc1 hrd hv' hc1' hrd'
 unfold maxLen at hc2 hc2'
 have hlen:((N:Int) != (N:Int))=false:=by simp
 have HN:=hide hN
 have HRD:=hide hrd
 have HRD':=hide hrd'
 have HE:=hide he
 have HGN:=hide hgn
 subst hv hv'
 clear hN hrd hrd' he hgn hg h1 h2
 go_enter Tryz.func66,Tryz.ntmps66
 go_wp2
 go_loopw [5] (fun i wr=>∃ j:Nat,j≤N∧i=.int .i64 j∧Below w.heap.size w wr) (fun i _=>N - (intOf i).toNat)
 case atStart=>exact ⟨0,Nat.zero_le _,rfl,Below.refl _ _⟩
 case round =>
  obtain ⟨j,hj,rfl,hbel⟩:=hrel
  by_cases hlt:j < N
  ·obtain ⟨b,off,us,G,rfl,P⟩:=HRD.out (by omega)
   obtain ⟨b',off',us',G',rfl,P'⟩:=HRD'.out (by omega)
   have hjn:j < l.length:=by rw [HN.out]; exact hlt
   have hlen2:j * 9=(cells g (l.take j)).length:=by rw [cells_len (sz:=9) HGN.out,List.length_take]; omega
   have hmem:l[j]∈l:=List.getElem_mem hjn
   rw [cells_split g l j,cells_drop g hjn] at P P'
   generalize l[j]=x at *
   obtain ⟨y1,G1,n1,c1,l1⟩:=(P.step hbel).mid hlen2 (HGN.out x)
   obtain ⟨y2,G2,n2,c2,l2⟩:=(P'.step hbel).mid hlen2 (HGN.out x)
   have s1:((Tryz.prog.info? 49).map (·.size))=some y1.length:=by rw [n1]; kernel_rfl
   have s2:((Tryz.prog.info? 49).map (·.size))=some y2.length:=by rw [n2]; kernel_rfl
   have hcall:=fun W (hb:Below wr.heap.size wr W)=>HE.out x hmem y1 y2 G1 G2 W (l1.step hb) (l2.step hb)
   have HB:=hide hbel
   have HCALL:=hide hcall
   have HC1:=hide c1
   have HC2:=hide c2
   have HS1:=hide s1
   have HS2:=hide s2
   have k0:(0:Int)≤(j:Int):=by omega
   have k1:(j:Int) < (N:Int):=by omega
   have k2:(j:Int).toNat=j:=by omega
   clear hbel hcall P P' l1 l2 hmem hlen2 hjn c1 c2 s1 s2 n1 n2
   go_wp2
   go_still_tail 8,(by kernel_rfl)
   refine wpStill_load_rng rfl _ _ rfl b (off + j * 9) rfl _ _ HC1.out Tryz.underlying49 rfl HS1.out ?_
   repeat still_step
   refine wpStill_load_rng rfl _ _ rfl b' (off' + j * 9) rfl _ _ HC2.out Tryz.underlying49 rfl HS2.out ?_
   refine wpStill_nil ?_
   change wpList _ _ _ _ _ wr.drew
   clear k2
   have hd:Below wr.heap.size wr wr.drew:=(Below.refl _ _).drew
   have hc:=HCALL.out _ hd
   have HB2:Hid (Below w.heap.size w wr.drew):=hide HB.out.drew
   clear HC1 HC2 HS1 HS2
   generalize wr.drew=wu at *
   clear HCALL hd
   go_wp2_with fail
   refine hc.mono ?_
   rintro e w2 ⟨rfl,b2⟩
   go_wp2_with fail
   go_roundw
   case rel=>exact ⟨j + 1,by omega,by go_num,HB2.out.trans (b2.mono HB2.out.size)⟩
   case measure=>simp [intOf]; omega
  ·obtain rfl:j=N:=by omega
   have HB:=hide hbel
   clear hbel
   go_wp2
   go_ret
   exact ⟨rfl,HB.out⟩
theorem deqObjS (l:List DObj):EqC Tryz.prog 66 (seqOf 9 DObj.cells l):=deqObjS0 l fun x _=>deqObj x
set_option maxRecDepth 20000 in
set_option maxHeartbeats 1600000 in
theorem deqStore0 (x:DStore):EqA Tryz.prog 20 x.cells:=by
 intro us1 us2 F1 F2 w h1 h2
 have hd:=h1
 have hd2:=h2
 rw [x.cells_eq] at hd hd2
 obtain ⟨A0,m0,c0,r0,G0,rfl,q0⟩:=hd.seqs1
 obtain ⟨A1,m1,c1,r1,G1,rfl,q1⟩:=q0.seqs1
 obtain ⟨A2,m2,c2,r2,G2,rfl,q2⟩:=q1.seqs1
 obtain rfl:=q2.nil1
 clear q0 q1 q2
 obtain ⟨A0x,m0x,c0x,r0x,G0x,rfl,q0x⟩:=hd2.seqs1
 obtain ⟨A1x,m1x,c1x,r1x,G1x,rfl,q1x⟩:=q0x.seqs1
 obtain ⟨A2x,m2x,c2x,r2x,G2x,rfl,q2x⟩:=q1x.seqs1
 obtain rfl:=q2x.nil1
 clear q0x q1x q2x
 obtain ⟨us1,hus1⟩:∃ us:List Value,[.slice A0 m0 c0,.slice A1 m1 c1,.slice A2 m2 c2]=us:=⟨_,rfl⟩
 obtain ⟨us2,hus2⟩:∃ us:List Value,[.slice A0x m0x c0x,.slice A1x m1x c1x,.slice A2x m2x c2x]=us:=⟨_,rfl⟩
 obtain ⟨wa,hwa⟩:∃ wa,(w.alloc (.cells #[.slice A0 m0 c0,.slice A1 m1 c1,.slice A2 m2 c2] 32)).alloc (.cells #[.slice A0x m0x c0x,.slice A1x m1x c1x,.slice A2x m2x c2x] 32)=wa:=⟨_,rfl⟩
 have ba:Below w.heap.size w wa:=by rw [← hwa]; exact ((Below.refl _ _).alloc (Nat.le_refl _) _).alloc (by simp) _
 have bx0:Box wa w.heap.size 32 us1:=by rw [← hwa,← hus1]; exact (Box.new w _ _).step ((Below.refl _ _).alloc (Nat.le_refl _) _)
 have by0:Box wa (w.heap.size + 1) 32 us2:=by rw [← hwa,← hus2]; have:=Box.new (w.alloc (.cells #[.slice A0 m0 c0,.slice A1 m1 c1,.slice A2 m2 c2] 32)) [.slice A0x m0x c0x,.slice A1x m1x c1x,.slice A2x m2x c2x] 32; rw [World.size_alloc] at this; exact this
 rw [hus1] at h1
 rw [hus2] at h2
 rw [x.cells_top] at h1 h2
 have P0:=ReadV.start (h1.step ba)
 have R0:=ReadV.start (h2.step ba)
 have HU1:=hide hus1
 have HU2:=hide hus2
 have HB0:=hide ba
 clear h1 h2 hus1 hus2 ba
 go_enter Tryz.func20,Tryz.ntmps20
 have cc0:wa.cell? ⟨w.heap.size,0,none⟩=some (.slice A0 m0 c0):=bx0.cell (by rw [← HU1.out]; rfl)
 have cd0:wa.cell? ⟨w.heap.size + 1,0,none⟩=some (.slice A0x m0x c0x):=by0.cell (by rw [← HU2.out]; rfl)
 obtain ⟨F0,l0⟩:=P0.call (p:=0) (by rfl) (v:=.slice A0 m0 c0) (by rw [← HU1.out]; rfl)
 obtain ⟨F0x,l0x⟩:=R0.call (p:=0) (by rfl) (v:=.slice A0x m0x c0x) (by rw [← HU2.out]; rfl)
 have call0:=deqObjS x.objs _ _ F0 F0x wa l0 l0x
 have CL0:=hide call0
 have PN0:=P0.next
 have RN0:=R0.next
 have BX0:=hide bx0
 have BY0:=hide by0
 clear call0 l0 l0x P0 R0 bx0 by0
 go_wp2_with fail
 refine CL0.out.mono ?_
 rintro e W0 ⟨rfl,b0⟩
 have P1:=PN0.step b0
 have R1:=RN0.step b0
 have bx1:=BX0.out.step b0
 have by1:=BY0.out.step b0
 have HB1:=hide (HB0.out.trans (b0.mono HB0.out.size))
 clear CL0 PN0 RN0 b0 BX0 BY0 cc0 cd0
 have cc1:W0.cell? ⟨w.heap.size,1,none⟩=some (.slice A1 m1 c1):=bx1.cell (by rw [← HU1.out]; rfl)
 have cd1:W0.cell? ⟨w.heap.size + 1,1,none⟩=some (.slice A1x m1x c1x):=by1.cell (by rw [← HU2.out]; rfl)
 obtain ⟨F1,l1⟩:=P1.call (p:=1) (by simp only [List.length_append,List.length_cons,List.length_nil]) (v:=.slice A1 m1 c1) (by rw [← HU1.out]; rfl)
 obtain ⟨F1x,l1x⟩:=R1.call (p:=1) (by simp only [List.length_append,List.length_cons,List.length_nil]) (v:=.slice A1x m1x c1x) (by rw [← HU2.out]; rfl)
 have call1:=deqNames x.roots _ _ F1 F1x W0 l1 l1x
 have CL1:=hide call1
 have PN1:=P1.next
 have RN1:=R1.next
 have BX1:=hide bx1
 have BY1:=hide by1
 clear call1 l1 l1x P1 R1 bx1 by1
 go_wp2_with fail
 refine CL1.out.mono ?_
 rintro e W1 ⟨rfl,b1⟩
 have P2:=PN1.step b1
 have R2:=RN1.step b1
 have bx2:=BX1.out.step b1
 have by2:=BY1.out.step b1
 have HB2:=hide (HB1.out.trans (b1.mono HB1.out.size))
 clear CL1 PN1 RN1 b1 BX1 BY1 cc1 cd1
 have cc2:W1.cell? ⟨w.heap.size,2,none⟩=some (.slice A2 m2 c2):=bx2.cell (by rw [← HU1.out]; rfl)
 have cd2:W1.cell? ⟨w.heap.size + 1,2,none⟩=some (.slice A2x m2x c2x):=by2.cell (by rw [← HU2.out]; rfl)
 obtain ⟨F2,l2⟩:=P2.call (p:=2) (by simp only [List.length_append,List.length_cons,List.length_nil]) (v:=.slice A2 m2 c2) (by rw [← HU1.out]; rfl)
 obtain ⟨F2x,l2x⟩:=R2.call (p:=2) (by simp only [List.length_append,List.length_cons,List.length_nil]) (v:=.slice A2x m2x c2x) (by rw [← HU2.out]; rfl)
 have call2:=deqRealS x.reals _ _ F2 F2x W1 l2 l2x
 have CL2:=hide call2
 have PN2:=P2.next
 have RN2:=R2.next
 have BX2:=hide bx2
 have BY2:=hide by2
 clear call2 l2 l2x P2 R2 bx2 by2
 go_wp2_with fail
 refine CL2.out.mono ?_
 rintro e W2 ⟨rfl,b2⟩
 have P3:=PN2.step b2
 have R3:=RN2.step b2
 have bx3:=BX2.out.step b2
 have by3:=BY2.out.step b2
 have HB3:=hide (HB2.out.trans (b2.mono HB2.out.size))
 clear CL2 PN2 RN2 b2 BX2 BY2 cc2 cd2
 go_wp2_with fail
 go_ret
 exact ⟨rfl,HB3.out⟩
theorem deqStore (x:DStore):EqA Tryz.prog 20 x.cells:=deqStore0 x
end Go.Proofs.YtgaadpkefncnmaaGreatDoor
