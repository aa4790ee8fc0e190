/-
  Parts of the proof: ShaK.
-/
import Derived.Test.YtgaadpkefncnmaaGreatDoorMp7
import Derived.Deep.RegionHeld3
/-
  The program's hash: the schedule.
-/
namespace Go.Proofs.YtgaadpkefncnmaaGreatDoor
open Go.RowKit
set_option linter.unusedVariables false
/-- The j-th word, of which n bytes have come. -/
def pw (b:List Int) (j:Nat):Nat→Int
 | 0=>0
 | n + 1=>pw b j n * 256 + b.getD (4 * j + n) 0
theorem pw_4 (b:List Int) (j:Nat):pw b j 4=word b j:=by
 simp only [pw,word,Nat.add_zero]
 omega
theorem pw_range {b:List Int} (hB:Byt b) (j:Nat):∀ n,n≤3→0≤pw b j n∧pw b j n < 16777216:=by
 intro n hn
 have h0:=hB.at_ (4 * j + 0)
 have h1:=hB.at_ (4 * j + 1)
 have h2:=hB.at_ (4 * j + 2)
 rcases (by omega:n=0∨n=1∨n=2∨n=3) with rfl | rfl | rfl | rfl <;> simp only [pw] <;> omega
/-- All 64 words when i bytes have come. -/
def sch (b:List Int) (i:Nat):List Int:=(List.range 64).map fun j=>pw b j (min 4 (i - 4 * j))
theorem sch_len (b:List Int) (i:Nat):(sch b i).length=64:=by simp [sch]
theorem sch_get {b:List Int} {i:Nat} (h:i < 64):(sch b i).getD (i / 4) 0=pw b (i / 4) (i % 4):=by
 have h1:i / 4 < 64:=by omega
 have h2:min 4 (i - 4 * (i / 4))=i % 4:=by omega
 simp [sch,List.getD,h1,h2]
theorem sch_next {b:List Int} {i:Nat} (h:i < 64):(sch b i).set (i / 4) (pw b (i / 4) (i % 4) * 256 + b.getD i 0)=sch b (i + 1):=by
 apply List.ext_getElem
 ·simp [sch]
 ·intro j h1 h2
  simp only [List.length_set,sch_len] at h1
  rw [List.getElem_set]
  by_cases hj:i / 4=j
  ·subst hj
   have h3:min 4 (i + 1 - 4 * (i / 4))=i % 4 + 1:=by omega
   have h4:4 * (i / 4) + i % 4=i:=by omega
   simp [sch,h3,pw,h4]
  ·have h3:min 4 (i + 1 - 4 * j)=min 4 (i - 4 * j):=by omega
   simp [sch,hj,h3]
theorem sch_end (b:List Int):sch b 64=pad64 (first16 b):=by
 apply List.ext_getElem
 ·rw [sch_len,pad64_len (by rw [first16_len]; omega)]
 ·intro j h1 h2
  rw [sch_len] at h1
  by_cases hj:j < 16
  ·have h3:min 4 (64 - 4 * j)=4:=by omega
   simp only [pad64]
   rw [List.getElem_append_left (by rw [first16_len]; exact hj)]
   simp [sch,h3,pw_4,first16]
  ·have h3:min 4 (64 - 4 * j)=0:=by omega
   simp only [pad64]
   rw [List.getElem_append_right (by rw [first16_len]; omega),List.getElem_replicate]
   simp only [sch,List.getElem_map,List.getElem_range,h3,pw]
theorem sch_zero (b:List Int):sch b 0=Z64:=by
 apply List.ext_getElem
 ·simp [sch,Z64]
 ·intro j h1 h2
  have h3:min 4 (0 - 4 * j)=0:=by omega
  simp only [sch,Z64,List.getElem_map,List.getElem_range,List.getElem_replicate,h3,pw]
set_option maxRecDepth 100000 in
set_option maxHeartbeats 4000000 in
theorem schedule (b:List Int) (hB:Byt b) (hl:b.length=64) (v:Value) (w:World) (hv:Rd w v (bs b)) :
  Calls Tryz.prog 276 #[v] w fun e w'=>e=.returned (.agg (wd (wseq b 48)))∧Below w.heap.size w w':=by
 obtain ⟨OUT,hOUT⟩:∃ OUT,wd (wseq b 48)=OUT:=⟨_,rfl⟩
 rw [hOUT]
 have HOUT:True→wd (wseq b 48)=OUT:=fun _=>hOUT
 clear hOUT
 obtain ⟨A,c,rfl,hc1,hc2,hrd⟩:=hv
 rw [bs_length] at *
 unfold maxLen at hc2
 obtain ⟨bb,off,rfl,hblt,hcell⟩:=hrd (by omega)
 have HC:=hide hcell
 clear hcell hrd
 go_enter Tryz.func276,Tryz.ntmps276
 go_upto_block 0 with (first
  | ((with_reducible refine at_slot 2 ?_); refine wpList_alloc_zero rfl _ rfl (wd Z64) (by kernel_rfl) ?_; intro w1 at1 b1 z1)
  | ((with_reducible refine at_slot 3 ?_); refine wpList_alloc_zero rfl _ rfl (wd Z64) (by kernel_rfl) ?_; intro w2 at2 b2 z2))
 rw [z1] at at2
 obtain ⟨gW,hgW⟩:∃ gW,gW=w.heap.size + 1:=⟨_,rfl⟩
 obtain ⟨gR,hgR⟩:∃ gR,gR=w.heap.size:=⟨_,rfl⟩
 rw [← hgW,← hgR]
 rw [← hgW] at at2
 rw [← hgR] at at1
 have aR:At w2 gR 257 (wd Z64):=at1.step b2
 have aW:At w2 gW 257 (wd (sch b 0)):=by rw [sch_zero]; exact at2
 have c2:Below w.heap.size w w2:=b1.trans (b2.mono b1.size)
 have hlt:gR < gW∧w.heap.size≤gR:=by omega
 obtain ⟨l1,l2⟩:=hlt
 clear hgW hgR at1 at2 b1 b2 z1 z2
 go_cut [] (fun wx=>At wx gR 257 (wd Z64)∧At wx gW 257 (wd (pad64 (wseq b 0)))∧Below w.heap.size w wx)
 case first =>
  go_wp2
  go_loopw [13] (fun i wr=>∃ k:Nat,k≤64∧i=.int .i64 k∧At wr gR 257 (wd Z64)∧At wr gW 257 (wd (sch b k))∧Below w.heap.size w wr)
   (fun i _=>64 - (intOf i).toNat)
  case atStart=>exact ⟨0,by omega,rfl,aR,aW,c2⟩
  case round =>
   clear aR aW c2
   obtain ⟨k,hk,rfl,aR,aW,hbel⟩:=hrel
   by_cases hlt:k < 64
   ·have q0:=(hbel.cell (p:=⟨bb,off + k,none⟩) hblt).trans (HC.out k _ (bs_get (by omega)))
    have wc:=aW.cell (i:=k / 4) (by rw [sch_len]; omega)
    have wf:=aW.frozen (k / 4)
    have hnx:=sch_next (b:=b) hlt
    obtain ⟨p0,p1⟩:=pw_range hB (k / 4) (k % 4) (by omega)
    rw [sch_get hlt] at wc
    obtain ⟨y0,y1⟩:=hB.at_ k
    generalize pw b (k / 4) (k % 4)=p at *
    generalize b.getD k 0=y at *
    have r1:bits .or .u32 (p * 256) y=p * 256 + y:=or32_below 8 (by omega) (by omega) (by omega) (by omega)
    have HN:=hide hnx
    have AR:=hide aR
    have AW:=hide aW
    have HB:=hide hbel
    have k4:(k:Int) / 4 < 64:=by omega
    clear hnx aR aW hbel
    go_wp2
    go_roundw
    case rel=>exact ⟨k + 1,by omega,by go_num,AR.out.far (by dsimp only; omega) _,by
     rw [← HN.out]
     exact AW.out.set_ (k / 4) _,HB.out.setCell (by dsimp only; omega) _⟩
    case measure=>simp [intOf]; omega
   ·obtain rfl:k=64:=by omega
    rw [sch_end] at aW
    have AR:=hide aR
    have AW:=hide aW
    have HB:=hide hbel
    clear aR aW hbel
    go_wp2
    go_meet
    exact ⟨AR.out,AW.out,HB.out⟩
 case rest =>
  clear aR aW c2
  obtain ⟨aR,aW,c2⟩:=hcut
  go_upto_block 2 with (fail)
  go_cut [] (fun wx=>At wx gR 257 (wd Z64)∧At wx gW 257 (wd (wseq b 48))∧Below w.heap.size w wx)
  case first =>
   go_wp2
   go_loopw [6] (fun i wr=>∃ k n:Nat,k=16 + n∧n≤48∧i=.int .i64 k∧At wr gR 257 (wd Z64)∧At wr gW 257 (wd (pad64 (wseq b n)))∧Below w.heap.size w wr)
    (fun i _=>64 - (intOf i).toNat)
   case atStart=>exact ⟨16,0,by omega,by omega,rfl,aR,aW,c2⟩
   case round =>
    clear aR aW c2
    obtain ⟨k,n,hkn,hn,rfl,aR,aW,hbel⟩:=hrel
    have hlen:(wseq b n).length=k:=by rw [wseq_len,hkn]
    by_cases hlt2:k < 64
    ·have hU:=wseq_32 hB n
     have hcell:∀ j,j < k→wr.cell? ⟨gW,j,none⟩=some (.int .u32 ((wseq b n).getD j 0)):=fun j hj=>by
      rw [aW.cell (by rw [pad64_len (by omega)]; omega),pad64_get (by omega)]
     have hnx:nextw (wseq b n)=((wseq b n).getD (k - 16) 0 + sg0 ((wseq b n).getD (k - 15) 0) + (wseq b n).getD (k - 7) 0 + sg1 ((wseq b n).getD (k - 2) 0)) % 4294967296:=by rw [nextw,hlen]
     have hset:=pad64_set (ws:=wseq b n) (by omega) (nextw (wseq b n))
     rw [hlen] at hset
     have q16:=hcell (k - 16) (by omega)
     have q15:=hcell (k - 15) (by omega)
     have q7:=hcell (k - 7) (by omega)
     have q2:=hcell (k - 2) (by omega)
     have wc:=aW.cell (i:=k) (by rw [pad64_len (by omega)]; omega)
     have wf:=aW.frozen k
     obtain ⟨x160,x161⟩:=hU.at_ (k - 16)
     obtain ⟨x150,x151⟩:=hU.at_ (k - 15)
     obtain ⟨x70,x71⟩:=hU.at_ (k - 7)
     obtain ⟨x20,x21⟩:=hU.at_ (k - 2)
     have hsg0:=sg0_32 ((wseq b n).getD (k - 15) 0)
     have hsg1:=sg1_32 ((wseq b n).getD (k - 2) 0)
     generalize (pad64 (wseq b n)).getD k 0=old at *
     have hdef0:sg0 ((wseq b n).getD (k - 15) 0)=bits .xor .u32 (bits .xor .u32 (rot 7 ((wseq b n).getD (k - 15) 0)) (rot 18 ((wseq b n).getD (k - 15) 0))) ((wseq b n).getD (k - 15) 0 / 8):=rfl
     have hdef1:sg1 ((wseq b n).getD (k - 2) 0)=bits .xor .u32 (bits .xor .u32 (rot 17 ((wseq b n).getD (k - 2) 0)) (rot 19 ((wseq b n).getD (k - 2) 0))) ((wseq b n).getD (k - 2) 0 / 1024):=rfl
     generalize (wseq b n).getD (k - 16) 0=y16 at *
     generalize (wseq b n).getD (k - 15) 0=y15 at *
     generalize (wseq b n).getD (k - 7) 0=y7 at *
     generalize (wseq b n).getD (k - 2) 0=y2 at *
     generalize sg0 y15=z0 at *
     generalize sg1 y2=z1 at *
     obtain ⟨z00,z01⟩:=hsg0
     obtain ⟨z10,z11⟩:=hsg1
     have hd0:=hdef0.symm
     have hd1:=hdef1.symm
     have HX:=hide hnx
     have HS:=hide hset
     have AR:=hide aR
     have AW:=hide aW
     have HB:=hide hbel
     have HKN:=hide hkn
     have HL:=hide hlen
     have k16:16≤k:=by omega
     have e16:(16:Int)≤k:=by omega
     have e15:(15:Int)≤k:=by omega
     have e7:(7:Int)≤k:=by omega
     have e2:(2:Int)≤k:=by omega
     have f0:(k:Int) < 64:=by omega
     have f16:(k:Int) - 16 < 64:=by omega
     have f15:(k:Int) - 15 < 64:=by omega
     have f7:(k:Int) - 7 < 64:=by omega
     have f2:(k:Int) - 2 < 64:=by omega
     have s16:IntKind.i64.wrap ((k:Int) - 16)=(k:Int) - 16:=IntWalk.i64_in _ (by omega)
     have s15:IntKind.i64.wrap ((k:Int) - 15)=(k:Int) - 15:=IntWalk.i64_in _ (by omega)
     have s7:IntKind.i64.wrap ((k:Int) - 7)=(k:Int) - 7:=IntWalk.i64_in _ (by omega)
     have s2:IntKind.i64.wrap ((k:Int) - 2)=(k:Int) - 2:=IntWalk.i64_in _ (by omega)
     have t16:((k:Int) - 16).toNat=k - 16:=by omega
     have t15:((k:Int) - 15).toNat=k - 15:=by omega
     have t7:((k:Int) - 7).toNat=k - 7:=by omega
     have t2:((k:Int) - 2).toNat=k - 2:=by omega
     clear hnx hset aR aW hbel hkn hlen hdef0 hdef1 hcell hU hn
     go_wp2
     go_quiet (fail)
     go_wp2_with (first
      | (go_at_call 277; (with_reducible refine (left7 y15 x150 x151 _).mono ?_); rintro e w' ⟨rfl,m7,rfl⟩)
      | (go_at_call 277; (with_reducible refine (left18 y15 x150 x151 _).mono ?_); rintro e w' ⟨rfl,m18,rfl⟩)
      | (go_at_call 277; (with_reducible refine (left17 y2 x20 x21 _).mono ?_); rintro e w' ⟨rfl,m17,rfl⟩)
      | (go_at_call 277; (with_reducible refine (left19 y2 x20 x21 _).mono ?_); rintro e wv ⟨rfl,m19,hwv⟩
         have q16b:wv.cell? ⟨gW,k - 16,none⟩=some (.int .u32 y16):=by rw [hwv]; exact q16
         have q7b:wv.cell? ⟨gW,k - 7,none⟩=some (.int .u32 y7):=by rw [hwv]; exact q7
         have wcb:wv.cell? ⟨gW,k,none⟩=some (.int .u32 old):=by rw [hwv]; exact wc
         have wfb:wv.frozen? ⟨gW,k,none⟩=false:=by rw [hwv]; exact wf
         have AR2:Hid (At wv gR 257 (wd Z64)):=by rw [hwv]; exact AR
         have AW2:Hid (At wv gW 257 (wd (pad64 (wseq b n)))):=by rw [hwv]; exact AW
         have HB2:Hid (Below w.heap.size w wv):=by rw [hwv]; exact hide (below_drewN (below_drewN HB.out _) _)
         clear hwv q16 q7 wc wf AR AW HB q15 q2))
     go_still_tail 15,(by kernel_rfl)
     change wpList _ _ _ _ _ wv.drew
     clear s16 s15 s7 s2 t16 t15 t7 t2 e16 e15 e7 e2 f16 f15 f7 f2 q16b q7b
     have wc2:wv.drew.cell? ⟨gW,k,none⟩=some (.int .u32 old):=wcb
     have wf2:wv.drew.frozen? ⟨gW,k,none⟩=false:=wfb
     have AW3:Hid (At wv.drew gW 257 _):=AW2
     have AR3:Hid (At wv.drew gR 257 (wd Z64)):=AR2
     have HB3:Hid (Below w.heap.size w wv.drew):=hide HB2.out.drew
     clear wcb wfb AW2 AR2 HB2
     generalize wv.drew=wu at *
     go_wp2
     go_roundw
     case rel=>exact ⟨k + 1,n + 1,by have:=HKN.out; omega,by have:=HKN.out; omega,by go_num,AR3.out.far (by dsimp only; omega) _,by
      rw [wseq,← HS.out,HX.out]
      exact AW3.out.set_ k _,HB3.out.setCell (by dsimp only; omega) _⟩
     case measure=>simp [intOf]; omega
    ·have h48:n=48:=by omega
     rw [h48,pad64_full (by rw [wseq_len])] at aW
     have AR:=hide aR
     have AW:=hide aW
     have HB:=hide hbel
     clear aR aW hbel hlen hkn hn h48
     go_wp2
     go_meet
     exact ⟨AR.out,AW.out,HB.out⟩
  case rest =>
   clear aR aW c2
   obtain ⟨aR,aW,hbel⟩:=hcut
   rw [HOUT trivial] at aW
   have hos:OUT.size=64:=by rw [← HOUT trivial,wd_size,wseq_len]
   have hoo:OUT.all (·.oneCell')=true:=by rw [← HOUT trivial]; exact wd_one _
   have AW:=hide aW
   have AR:=hide aR
   have HB:=hide hbel
   have HOS:=hide hos
   have HOO:=hide hoo
   clear aW aR hbel hos hoo
   go_wp2_with (first
    | ((with_reducible refine at_slot 73 ?_); refine wpList_load_row rfl _ _ rfl gW rfl 257 OUT (0,0) (.array 64 230) AW.out Tryz.underlying257 rfl (by rw [HOS.out]; kernel_rfl) ?_)
    | ((with_reducible refine at_none ?_); refine wpList_store_all rfl _ (.tmp 2) (.tmp 73) rfl gR OUT rfl rfl _ _ AR.out (by rw [HOS.out]; kernel_rfl) (by rw [HOS.out]; rfl) HOO.out ?_; intro wz atz bz zz nz))
   exact bodyPost_ret (results_cell_row rfl _ _ gR 257 OUT (0,0) (.array 64 230) rfl atz Tryz.underlying257 rfl (by rw [HOS.out]; kernel_rfl)) rfl ⟨rfl,HB.out.trans (bz _ (by omega))⟩
end Go.Proofs.YtgaadpkefncnmaaGreatDoor
