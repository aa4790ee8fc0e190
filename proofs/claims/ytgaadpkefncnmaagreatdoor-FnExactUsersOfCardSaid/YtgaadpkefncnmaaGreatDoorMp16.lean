/-
  Parts of the proof: ShaM.
-/
import Derived.Test.YtgaadpkefncnmaaGreatDoorMp15
/-
  The program's hash: one block.
-/
namespace Go.Proofs.YtgaadpkefncnmaaGreatDoor
open Go.RowKit
set_option linter.unusedVariables false
/-- The table of the program holds the numbers of the rounds. -/
def Tab (w:World):Prop:=∃ t fr,w.heap[2]? = some (.cells (wd KL) t fr)
theorem Tab.lt {w:World} (h:Tab w):2 < w.heap.size:=by
 obtain ⟨t,fr,h⟩:=h
 exact (Array.getElem?_eq_some_iff.1 h).1
theorem Tab.step {w w' : World} (h:Tab w) (hb:Below w.heap.size w w'):Tab w':=by
 have hl:=h.lt
 obtain ⟨t,fr,h⟩:=h
 exact ⟨t,fr,(hb.block _ hl).trans h⟩
theorem Tab.outside {w w' : World} {lo hi:Nat} (h:Tab w) (ho:Outside lo hi w w') (hlo:2 < lo):Tab w':=by
 have hl:=h.lt
 obtain ⟨t,fr,h⟩:=h
 exact ⟨t,fr,(ho.block _ hl (.inl hlo)).trans h⟩
theorem Outside.set {lo hi:Nat} {w w' : World} (h:Outside lo hi w w') {p:Addr} (h0:lo≤p.block) (h1:p.block < hi) (u:Value):Outside lo hi w (w'.setCell p u) :=
 h.trans ⟨rfl,rfl,rfl,by simp,fun k hk ho=>Below.heap_setCell w' p u k (by omega)⟩
theorem Outside.drew {lo hi:Nat} {w w' : World} (h:Outside lo hi w w'):Outside lo hi w w'.drew:=⟨h.os,h.tape,h.output,h.size,h.block⟩
theorem At.outside {w w' : World} {g lo hi:Nat} {t:TypeId} {cs:Array Value} (h:At w g t cs) (ho:Outside lo hi w w') (hd:g < lo∨hi≤g):At w' g t cs:=(ho.block g h.lt hd).trans h
theorem wd_get {ws:List Int} {k:Nat} (h:k < ws.length):(wd ws)[k]? = some (.int .u32 (ws.getD k 0)):=by
 simp [wd,List.getD,h]
/-- An element of an array that is a value. -/
theorem run_index_arr {P:Program} (t e:TypeId) (n:Nat) (cs:Array Value) (i:Nat) (u:Value) (kd:IntKind) (h:P.underlying t=some (.array n e)) (he:P.underlying e=some (.int kd)) (hs:(P.info? e).map (·.size)=some 1) (hi:i < n) (hu:cs[i]? = some u) (w:World) :
  (Instr.index t (.agg cs) (.int .i64 (i:Int))).run P w=.ok u w:=by
 have hagg:(isAgg e).run P w=.ok false w:=by
  unfold isAgg
  rw [Sem.run_bind,run_underlying he w]
  simp
 have hn:0≤(i:Int)∧(i:Int) < (n:Int):=by omega
 cases hq:P.info? e with
 | none=>simp [hq] at hs
 | some ii =>
   have hs1:ii.size=1:=by simpa [hq] using hs
   simp [Instr.index,run_underlying h,asIntOf,hi,Go.part,sizeOf,typeInfo,hq,hs1,Sem.run_bind,hagg,hu]
set_option maxRecDepth 100000 in
set_option maxHeartbeats 8000000 in
theorem mix (s:S8) (hs:s.Ok) (g:Nat) (b:List Int) (hB:Byt b) (hl:b.length=64) (v:Value) (w:World) (hv:Rd w v (bs b)) (hg:At w g 270 (wd s.list)) (hT:Tab w) :
  Calls Tryz.prog 270 #[.pointer (some ⟨g,0,none⟩),v] w fun e w'=>(∃ v,e=.returned v)∧At w' g 270 (wd (blockS s b).list)∧Outside g (g + 1) w w':=by
 obtain ⟨ws,hws⟩:∃ ws,wseq b 48=ws:=⟨_,rfl⟩
 have hsch:=schedule b hB hl v w hv
 rw [hws] at hsch
 have hbl:(blockS s b).list=add8 s.list (rnds ws 64 s).list:=by rw [blockS_list,hws]
 have hwl:ws.length=64:=by rw [← hws,wseq_len]
 have hwU:U32 ws:=by rw [← hws]; exact wseq_32 hB 48
 rw [hbl]
 have hglt:=hg.lt
 have HG:=hide hg
 have HT:=hide hT
 have HL:=hide hwl
 have HU:=hide hwU
 clear hws hbl hv hg hT hwl hwU
 go_enter Tryz.func270,Tryz.ntmps270
 go_upto_region 1 with (first
  | (go_at_call 276; (with_reducible refine hsch.mono ?_); rintro e w1 ⟨rfl,b1⟩)
  | ((with_reducible refine at_slot 4 ?_); refine wpList_alloc_zero rfl _ rfl (wd Z64) (by kernel_rfl) ?_; intro w2 at2 b2 z2)
  | ((with_reducible refine at_none ?_); refine wpList_store_all rfl _ _ _ rfl w1.heap.size (wd ws) rfl rfl _ _ at2 (by rw [wd_size,HL.out]; kernel_rfl) (by rw [wd_size,wd_size,HL.out]; rfl) (wd_one _) ?_; intro w3 at3 b3 z3 n3))
 obtain ⟨gW,hgW⟩:∃ gW,gW=w1.heap.size:=⟨_,rfl⟩
 rw [← hgW] at at3 ⊢
 have c3:Below w.heap.size w w3:=(b1.trans (b2.mono b1.size)).trans (b3 _ b1.size)
 have hgg:g < gW:=by have:=b1.size; omega
 have aG:=HG.out.step c3
 have aT:=HT.out.step c3
 clear hgW at2 b1 b2 b3 z2 z3 n3 HG HT hsch
 obtain ⟨a,b',c',d,e,f,g',h⟩:=s
 obtain ⟨⟨a0,a1⟩,⟨b0,b1⟩,⟨c0,c1⟩,⟨d0,d1⟩,⟨e0,e1⟩,⟨f0,f1⟩,⟨g0,g1⟩,⟨h0,h1⟩⟩:=id hs
 dsimp only at a0 a1 b0 b1 c0 c1 d0 d1 e0 e1 f0 f1 g0 g1 h0 h1
 have va:w3.cell? ⟨g,0,none⟩=some (.int .u32 a):=aG.cell (i:=0) (by simp [S8.list])
 have vb:w3.cell? ⟨g,1,none⟩=some (.int .u32 b'):=aG.cell (i:=1) (by simp [S8.list])
 have vc:w3.cell? ⟨g,2,none⟩=some (.int .u32 c'):=aG.cell (i:=2) (by simp [S8.list])
 have vd:w3.cell? ⟨g,3,none⟩=some (.int .u32 d):=aG.cell (i:=3) (by simp [S8.list])
 have ve:w3.cell? ⟨g,4,none⟩=some (.int .u32 e):=aG.cell (i:=4) (by simp [S8.list])
 have vf:w3.cell? ⟨g,5,none⟩=some (.int .u32 f):=aG.cell (i:=5) (by simp [S8.list])
 have vg:w3.cell? ⟨g,6,none⟩=some (.int .u32 g'):=aG.cell (i:=6) (by simp [S8.list])
 have vh:w3.cell? ⟨g,7,none⟩=some (.int .u32 h):=aG.cell (i:=7) (by simp [S8.list])
 have AG:=hide aG
 have AT:=hide aT
 have AW:=hide at3
 have HB:=hide c3
 clear aG aT at3 c3
 go_quiet (fail)
 have AG2:Hid (At (w3.drewN nq) g 270 (wd (S8.list ⟨a,b',c',d,e,f,g',h⟩))):=AG
 have AT2:Hid (Tab (w3.drewN nq)):=AT
 have AW2:Hid (At (w3.drewN nq) gW 257 (wd ws)):=AW
 have HB2:Hid (Below w.heap.size w (w3.drewN nq)):=hide (below_drewN HB.out nq)
 clear va vb vc vd ve vf vg vh AG AT AW HB
 generalize w3.drewN nq=w4 at *
 obtain ⟨tt,fr,hT⟩:=id AT2.out
 obtain ⟨K,hK⟩:∃ K,wd KL=K:=⟨_,rfl⟩
 rw [hK] at hT
 have hK64:K.size=64:=by rw [← hK]; rfl
 have hKn:∀ n,n < 64→K[n]? = some (Value.int .u32 (KL.getD n 0)):=fun n hn=>by rw [← hK]; exact wd_get hn
 have HK64:=hide hK64
 have HKN:=hide hKn
 have HT:=hide hT
 clear hK hK64 hKn hT AT2
 go_upto_block 0 with ((with_reducible refine at_slot 55 ?_); refine wpList_load_row rfl _ _ rfl 2 rfl tt K fr (.array 64 230) HT.out Tryz.underlying257 rfl (by rw [HK64.out]; kernel_rfl) ?_)
 go_cut [5,6,7,8,9,10,11,12] (fun v5 v6 v7 v8 v9 v10 v11 v12 wx=>∃ r,rnds ws 64 ⟨a,b',c',d,e,f,g',h⟩=r∧v5=.int .u32 r.a∧v6=.int .u32 r.b∧v7=.int .u32 r.c∧v8=.int .u32 r.d∧v9=.int .u32 r.e∧v10=.int .u32 r.f∧v11=.int .u32 r.g∧v12=.int .u32 r.h∧At wx g 270 (wd (S8.list ⟨a,b',c',d,e,f,g',h⟩))∧Below w.heap.size w wx)
 case first =>
  go_wp2
  go_loopw [5,6,7,8,9,10,11,12,56] (fun v5 v6 v7 v8 v9 v10 v11 v12 q wr=>∃ (n:Nat) (r:S8),n≤64∧q=.int .i64 n∧Hid (rnds ws n ⟨a,b',c',d,e,f,g',h⟩=r)∧v5=.int .u32 r.a∧v6=.int .u32 r.b∧v7=.int .u32 r.c∧v8=.int .u32 r.d∧v9=.int .u32 r.e∧v10=.int .u32 r.f∧v11=.int .u32 r.g∧v12=.int .u32 r.h∧At wr g 270 (wd (S8.list ⟨a,b',c',d,e,f,g',h⟩))∧At wr gW 257 (wd ws)∧Below w.heap.size w wr)
   (fun _ _ _ _ _ _ _ _ q _=>64 - (intOf q).toNat)
  case atStart=>exact ⟨0,⟨a,b',c',d,e,f,g',h⟩,by omega,rfl,hide rfl,rfl,rfl,rfl,rfl,rfl,rfl,rfl,rfl,AG2.out,AW2.out,HB2.out⟩
  case round =>
   clear AW2 HB2
   obtain ⟨n,r,hn,rfl,HR,rfl,rfl,rfl,rfl,rfl,rfl,rfl,rfl,aG,aW,hbel⟩:=hrel
   have AG:=hide aG
   have AW:=hide aW
   have HB:=hide hbel
   clear aG hbel AG2
   by_cases hlt:n < 64
   ·have hok:r.Ok:=by rw [← HR.out]; exact rnds_ok ws hs n
    have vw:wr.cell? ⟨gW,n,none⟩=some (.int .u32 (ws.getD n 0)):=aW.cell (by rw [HL.out]; exact hlt)
    obtain ⟨x0,x1⟩:=HU.out.at_ n
    obtain ⟨x,hxe⟩:∃ x,ws.getD n 0=x:=⟨_,rfl⟩
    rw [hxe] at vw x0 x1
    obtain ⟨kn,hkne⟩:∃ kn,KL.getD n 0=kn:=⟨_,rfl⟩
    have hidx:=run_index_arr (P:=Tryz.prog) 257 230 64 K n _ .u32 Tryz.underlying257 Tryz.underlying230 (by kernel_rfl) hlt (HKN.out n hlt)
    rw [hkne] at hidx
    obtain ⟨ra,rb,rc,rd,re,rf,rg,rh⟩:=r
    obtain ⟨⟨p0,p1⟩,⟨q0,q1⟩,⟨s0,s1⟩,⟨t0,t1⟩,⟨u0,u1⟩,⟨y0,y1⟩,⟨z0,z1⟩,⟨o0,o1⟩⟩:=hok
    dsimp only at p0 p1 q0 q1 s0 s1 t0 t1 u0 u1 y0 y1 z0 z1 o0 o1 ⊢
    have hnot:(if IntKind.u32.signed=true then (-1:Int) else IntKind.u32.max)=4294967295:=rfl
    obtain ⟨S1,hS1,S10,S11⟩:∃ S1,bits .xor .u32 (bits .xor .u32 (rot 6 re) (rot 11 re)) (rot 25 re)=S1∧0≤S1∧S1≤4294967295:=⟨_,rfl,bits32 _ _ _⟩
    obtain ⟨CH,hCH,CH0,CH1⟩:∃ CH,bits .xor .u32 (bits .and .u32 re rf) (bits .and .u32 (bits .xor .u32 4294967295 re) rg)=CH∧0≤CH∧CH≤4294967295:=⟨_,rfl,bits32 _ _ _⟩
    obtain ⟨S0,hS0,S00,S01⟩:∃ S0,bits .xor .u32 (bits .xor .u32 (rot 2 ra) (rot 13 ra)) (rot 22 ra)=S0∧0≤S0∧S0≤4294967295:=⟨_,rfl,bits32 _ _ _⟩
    obtain ⟨MJ,hMJ,MJ0,MJ1⟩:∃ MJ,bits .xor .u32 (bits .xor .u32 (bits .and .u32 ra rb) (bits .and .u32 ra rc)) (bits .and .u32 rb rc)=MJ∧0≤MJ∧MJ≤4294967295:=⟨_,rfl,bits32 _ _ _⟩
    have hstep:rnds ws (n + 1) ⟨a,b',c',d,e,f,g',h⟩=⟨(rh + S1 + CH + kn + x + S0 + MJ) % 4294967296,ra,rb,rc,(rd + (rh + S1 + CH + kn + x)) % 4294967296,re,rf,rg⟩:=by
     rw [rnds,HR.out,← hS1,← hCH,← hS0,← hMJ,← hkne,← hxe]
     rfl
    have HST:=hide hstep
    clear hstep hkne hxe aW HR
    go_wp2_with (first
     | (go_at_call 277; (with_reducible refine (left6 re u0 u1 _).mono ?_); rintro e w' ⟨rfl,m6,rfl⟩)
     | (go_at_call 277; (with_reducible refine (left11 re u0 u1 _).mono ?_); rintro e w' ⟨rfl,m11,rfl⟩)
     | (go_at_call 277; (with_reducible refine (left25 re u0 u1 _).mono ?_); rintro e w' ⟨rfl,m25,rfl⟩)
     | (go_at_call 277; (with_reducible refine (left2 ra p0 p1 _).mono ?_); rintro e w' ⟨rfl,m2,rfl⟩)
     | (go_at_call 277; (with_reducible refine (left13 ra p0 p1 _).mono ?_); rintro e w' ⟨rfl,m13,rfl⟩)
     | (go_at_call 277; (with_reducible refine (left22 ra p0 p1 _).mono ?_); rintro e w' ⟨rfl,m22,rfl⟩))
    go_roundw
    case rel=>exact ⟨n + 1,_,by omega,by go_num,HST,congrArg (Value.int .u32) (by dsimp only; omega),rfl,rfl,rfl,congrArg (Value.int .u32) (by dsimp only; omega),rfl,rfl,rfl,AG.out,AW.out,below_drewN HB.out _⟩
    case measure=>simp [intOf]; omega
   ·obtain rfl:n=64:=by omega
    go_wp2
    go_meet
    exact ⟨r,HR.out,rfl,rfl,rfl,rfl,rfl,rfl,rfl,rfl,AG.out,HB.out⟩
 case rest =>
  clear AG2 AW2 HB2 HT HK64 HKN
  obtain ⟨r,hr,rfl,rfl,rfl,rfl,rfl,rfl,rfl,rfl,aG,hbel⟩:=hcut
  have hokf:r.Ok:=by rw [← hr]; exact rnds_ok ws hs 64
  have HR:True→rnds ws 64 ⟨a,b',c',d,e,f,g',h⟩=r:=fun _=>hr
  have hus:=S8.list_32 hs
  have hur:=S8.list_32 hokf
  obtain ⟨xs,hxs⟩:∃ xs,(S8.list ⟨a,b',c',d,e,f,g',h⟩)=xs:=⟨_,rfl⟩
  have hx8:xs.length=8:=by rw [← hxs]; rfl
  rw [hxs] at aG hus
  have HXS:True→(S8.list ⟨a,b',c',d,e,f,g',h⟩)=xs:=fun _=>hxs
  clear hr hxs
  obtain ⟨ra,rb,rc,rd,re,rf,rg,rh⟩:=r
  obtain ⟨ys,hys⟩:∃ ys,[ra,rb,rc,rd,re,rf,rg,rh]=ys:=⟨_,rfl⟩
  have hy8:ys.length=8:=by rw [← hys]; rfl
  have HYS:True→(S8.list ⟨ra,rb,rc,rd,re,rf,rg,rh⟩)=ys:=fun _=>hys
  have hur2:U32 ys:=by rw [← HYS trivial]; exact hur
  clear hur hokf a0 a1 b0 b1 c0 c1 d0 d1 e0 e1 f0 f1 g0 g1 h0 h1
  have aM:At wc g 270 (wd (mixed xs ys 0)):=by simpa [mixed] using aG
  have hO:Outside g (g + 1) w wc:=Outside.of_below hbel g (g + 1)
  have HX8:=hide hx8
  have HY8:=hide hy8
  have HUS:=hide hus
  have HUR:=hide hur2
  have HYQ:True→[ra,rb,rc,rd,re,rf,rg,rh]=ys:=fun _=>hys
  clear hx8 hy8 hus hur2 aG hbel hys
  dsimp only
  go_upto_block 2 with ((with_reducible refine at_slot 128 ?_); refine wpList_build_as (wd ys) rfl _ _ rfl (by rw [← HYQ trivial]; kernel_rfl) ?_)
  go_wp2
  go_loopw [129] (fun i wr=>∃ k:Nat,k≤8∧i=.int .i64 k∧At wr g 270 (wd (mixed xs ys k))∧Outside g (g + 1) w wr)
   (fun i _=>8 - (intOf i).toNat)
  case atStart=>exact ⟨0,by omega,rfl,aM,hO⟩
  case round =>
   clear aM hO
   obtain ⟨k,hk,rfl,aM,hO⟩:=hrel
   by_cases hlt:k < 8
   ·have q1:wr.cell? ⟨g,k,none⟩=some (.int .u32 (xs.getD k 0)):=by
     rw [← mixed_get (xs:=xs) (ys:=ys) (by rw [HX8.out,HY8.out]) (by rw [HX8.out]; exact hlt)]
     exact aM.cell (by rw [mixed_len (by rw [HX8.out,HY8.out]),HX8.out]; exact hlt)
    have hidx:=run_index_arr (P:=Tryz.prog) 231 230 8 (wd ys) k _ .u32 Tryz.underlying231 Tryz.underlying230 (by kernel_rfl) hlt (wd_get (ws:=ys) (by rw [HY8.out]; exact hlt))
    have wf:=aM.frozen k
    have hset:=mixed_set (xs:=xs) (ys:=ys) (by rw [HX8.out,HY8.out]) (k:=k) (by rw [HX8.out]; exact hlt)
    obtain ⟨x0,x1⟩:=HUS.out.at_ k
    obtain ⟨y0,y1⟩:=HUR.out.at_ k
    generalize xs.getD k 0=x at *
    generalize ys.getD k 0=y at *
    have HS:=hide hset
    have AM:=hide aM
    have HO:=hide hO
    clear hset aM hO
    go_wp2
    go_still_tail 9,(by kernel_rfl)
    change wpList _ _ _ _ _ wr.drew
    have q1b:wr.drew.cell? ⟨g,k,none⟩=some (.int .u32 x):=q1
    have wfb:wr.drew.frozen? ⟨g,k,none⟩=false:=wf
    have AM2:Hid (At wr.drew g 270 (wd (mixed xs ys k))):=AM
    have HO2:Hid (Outside g (g + 1) w wr.drew):=hide HO.out.drew
    clear q1 wf AM HO hidx
    generalize wr.drew=wu at *
    go_wp2
    go_roundw
    case rel=>exact ⟨k + 1,by omega,by go_num,by
     rw [← HS.out]
     exact AM2.out.set_ k _,HO2.out.set (by dsimp only; omega) (by dsimp only; omega) _⟩
    case measure=>simp [intOf]; omega
   ·obtain rfl:k=8:=by omega
    have aF:At wr g 270 (wd (add8 xs ys)):=by
     rw [← mixed_end (xs:=xs) (ys:=ys) (by rw [HX8.out,HY8.out]),HX8.out]
     exact aM
    have hfin:At wr g 270 (wd (add8 (S8.list ⟨a,b',c',d,e,f,g',h⟩) (rnds ws 64 ⟨a,b',c',d,e,f,g',h⟩).list)):=by
     rw [HR trivial,HXS trivial,HYS trivial]
     exact aF
    have HF:True→At wr g 270 (wd (add8 (S8.list ⟨a,b',c',d,e,f,g',h⟩) (rnds ws 64 ⟨a,b',c',d,e,f,g',h⟩).list)):=fun _=>hfin
    have HO:=hide hO
    clear hfin aF aM hO
    go_wp2
    go_end0
    exact ⟨⟨_,rfl⟩,HF trivial,HO.out⟩
end Go.Proofs.YtgaadpkefncnmaaGreatDoor
