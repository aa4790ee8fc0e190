/-
  Parts of the proof: ShaB.
-/
import Derived.Test.YtgaadpkefncnmaaGreatDoorMp7
import Derived.Deep.RegionHeld3
import Derived.StillTailTactics
import Derived.IntWalk
import Derived.Deep.DeepCutAuto
import Derived.Deep.CutBlock
/-
  The model's block function.
-/
namespace Go.Proofs.YtgaadpkefncnmaaGreatDoor
open Go.RowKit
set_option linter.unusedVariables false
set_option maxRecDepth 100000 in
set_option maxHeartbeats 4000000 in
theorem specBlock (s:S8) (hs:s.Ok) (b:List Int) (hB:Byt b) (hl:b.length=64) (v:Value) (w:World) (hv:Rd w v (bs b)) :
  Calls Tryz.prog 210 #[.agg (wd s.list),v] w fun e w'=>e=.returned (.agg (wd (add8 s.list (rnds (wseq b 48) 64 s).list)))∧Below w.heap.size w w':=by
 obtain ⟨OUT,hOUT⟩:∃ OUT,wd (add8 s.list (rnds (wseq b 48) 64 s).list)=OUT:=⟨_,rfl⟩
 rw [hOUT]
 have HOUT:True→wd (add8 s.list (rnds (wseq b 48) 64 s).list)=OUT:=fun _=>hOUT
 clear hOUT
 obtain ⟨A,c,rfl,hc1,hc2,hrd⟩:=hv
 rw [bs_length] at *
 unfold maxLen at hc2
 obtain ⟨bb,off,rfl,hblt,hcell⟩:=hrd (by omega)
 have HC:=hide hcell
 clear hcell hrd
 obtain ⟨cs,hcs⟩:∃ cs,wd s.list=cs:=⟨_,rfl⟩
 rw [hcs]
 have HCS:=hide hcs
 clear hcs
 go_enter Tryz.func210,Tryz.ntmps210
 go_upto_block 0 with (first
  | (refine wpList_alloc_zero (o:=⟨some 4,_,_,_,_,_⟩) rfl _ rfl (wd Z8) (by kernel_rfl) ?_; intro w1 at1 b1 z1)
  | (refine wpList_alloc_zero (o:=⟨some 5,_,_,_,_,_⟩) rfl _ rfl (wd Z64) (by kernel_rfl) ?_; intro w2 at2 b2 z2))
 obtain ⟨gW,hgW⟩:∃ gW,gW=w.heap.size + 1 + 1:=⟨_,rfl⟩
 obtain ⟨gR,hgR⟩:∃ gR,gR=w.heap.size + 1:=⟨_,rfl⟩
 obtain ⟨gH,hgH⟩:∃ gH,gH=w.heap.size:=⟨_,rfl⟩
 have hz1:w1.heap.size=w.heap.size + 1 + 1:=by rw [z1]; simp
 have aH:At w2 gH 231 cs:=by
  rw [hgH]
  have h0:At (w.alloc (.cells cs 231)) w.heap.size 231 cs:=heap_alloc_new w _
  exact (h0.step b1).step b2
 have aR:At w2 gR 231 (wd Z8):=by
  have h0:=at1.step b2
  rw [hgR]
  simpa using h0
 have aW:At w2 gW 257 (wd (pad64 ((first16 b).take 0))):=by
  have h0:=at2
  rw [hz1] at h0
  rw [hgW]
  exact h0
 have c2:Below w.heap.size w w2:=(((Below.refl _ _).alloc (Nat.le_refl _) _).trans (b1.mono (by simp))).trans (b2.mono (by omega))
 rw [← hgW,← hgR,← hgH]
 have hlt:gH < gR∧gR < gW∧w.heap.size≤gH:=by omega
 obtain ⟨l1,l2,l3⟩:=hlt
 have HG:=hide (And.intro hgW (And.intro hgR hgH))
 clear hgW hgR hgH at1 at2 b1 b2 z1 z2 hz1
 go_cut [] (fun wx=>At wx gH 231 cs∧At wx gR 231 (wd Z8)∧At wx gW 257 (wd (pad64 (wseq b 0)))∧Below w.heap.size w wx)
 case first =>
  go_wp2
  go_loopw [6] (fun i wr=>∃ k:Nat,k≤16∧i=.int .i64 k∧At wr gH 231 cs∧At wr gR 231 (wd Z8)∧At wr gW 257 (wd (pad64 ((first16 b).take k)))∧Below w.heap.size w wr)
   (fun i _=>16 - (intOf i).toNat)
  case atStart=>exact ⟨0,by omega,rfl,aH,aR,aW,c2⟩
  case round =>
   obtain ⟨k,hk,rfl,aH,aR,aW,hbel⟩:=hrel
   by_cases hlt:k < 16
   ·have q0:=(hbel.cell (p:=⟨bb,off + 4 * k,none⟩) hblt).trans (HC.out (4 * k) _ (bs_get (by omega)))
    have q1:=(hbel.cell (p:=⟨bb,off + (4 * k + 1),none⟩) hblt).trans (HC.out (4 * k + 1) _ (bs_get (by omega)))
    have q2:=(hbel.cell (p:=⟨bb,off + (4 * k + 2),none⟩) hblt).trans (HC.out (4 * k + 2) _ (bs_get (by omega)))
    have q3:=(hbel.cell (p:=⟨bb,off + (4 * k + 3),none⟩) hblt).trans (HC.out (4 * k + 3) _ (bs_get (by omega)))
    have hw:word b k=b.getD (4 * k) 0 * 16777216 + b.getD (4 * k + 1) 0 * 65536 + b.getD (4 * k + 2) 0 * 256 + b.getD (4 * k + 3) 0:=rfl
    obtain ⟨x00,x01⟩:=hB.at_ (4 * k)
    obtain ⟨x10,x11⟩:=hB.at_ (4 * k + 1)
    obtain ⟨x20,x21⟩:=hB.at_ (4 * k + 2)
    obtain ⟨x30,x31⟩:=hB.at_ (4 * k + 3)
    generalize b.getD (4 * k) 0=y0 at *
    generalize b.getD (4 * k + 1) 0=y1 at *
    generalize b.getD (4 * k + 2) 0=y2 at *
    generalize b.getD (4 * k + 3) 0=y3 at *
    have r1:bits .or .u32 (y0 * 16777216) (y1 * 65536)=y0 * 16777216 + y1 * 65536:=or32_below 24 (by omega) (by omega) x00 (by omega)
    have r2:bits .or .u32 (y0 * 16777216 + y1 * 65536) (y2 * 256)=y0 * 16777216 + y1 * 65536 + y2 * 256:=by
     have h:=or32_below (x:=y2 * 256) (c:=y0 * 256 + y1) 16 (by omega) (by omega) (by omega) (by omega)
     rw [show (y0 * 256 + y1) * 2 ^ 16=y0 * 16777216 + y1 * 65536 by omega] at h
     exact h
    have r3:bits .or .u32 (y0 * 16777216 + y1 * 65536 + y2 * 256) y3=y0 * 16777216 + y1 * 65536 + y2 * 256 + y3:=by
     have h:=or32_below (x:=y3) (c:=y0 * 65536 + y1 * 256 + y2) 8 (by omega) (by omega) (by omega) (by omega)
     rw [show (y0 * 65536 + y1 * 256 + y2) * 2 ^ 8=y0 * 16777216 + y1 * 65536 + y2 * 256 by omega] at h
     exact h
    have wc:=aW.cell (i:=k) (by rw [pad64_len (by rw [List.length_take,first16_len]; omega)]; omega)
    have wf:=aW.frozen k
    have HW:=hide hw
    have AH:=hide aH
    have AR:=hide aR
    have AW:=hide aW
    have HB:=hide hbel
    generalize (pad64 ((first16 b).take k)).getD k 0=old at *
    clear hw aH aR aW hbel
    have lim:(4 * (k:Int) + 3 < 64)∧(k:Int) < 64:=by omega
    have m0:y0 * 16777216 % 4294967296=y0 * 16777216:=by omega
    have m1:y1 * 65536 % 4294967296=y1 * 65536:=by omega
    have m2:y2 * 256 % 4294967296=y2 * 256:=by omega
    have p0:(0:Int)≤4 * (k:Int):=by omega
    have p1:(0:Int)≤4 * (k:Int) + 1:=by omega
    have p2:(0:Int)≤4 * (k:Int) + 2:=by omega
    have p3:(0:Int)≤4 * (k:Int) + 3:=by omega
    have u0:4 * (k:Int) < 64:=by omega
    have u1:4 * (k:Int) + 1 < 64:=by omega
    have u2:4 * (k:Int) + 2 < 64:=by omega
    have u3:4 * (k:Int) + 3 < 64:=by omega
    have s0:IntKind.i64.wrap (4 * (k:Int))=4 * (k:Int):=IntWalk.i64_in _ (by omega)
    have s1:IntKind.i64.wrap (4 * (k:Int) + 1)=4 * (k:Int) + 1:=IntWalk.i64_in _ (by omega)
    have s2:IntKind.i64.wrap (4 * (k:Int) + 2)=4 * (k:Int) + 2:=IntWalk.i64_in _ (by omega)
    have s3:IntKind.i64.wrap (4 * (k:Int) + 3)=4 * (k:Int) + 3:=IntWalk.i64_in _ (by omega)
    have t0:(4 * (k:Int)).toNat=4 * k:=by omega
    have t1:(4 * (k:Int) + 1).toNat=4 * k + 1:=by omega
    have t2:(4 * (k:Int) + 2).toNat=4 * k + 2:=by omega
    have t3:(4 * (k:Int) + 3).toNat=4 * k + 3:=by omega
    go_wp2
    go_still_tail 35,(by kernel_rfl)
    change wpList _ _ _ _ _ wr.drew
    clear s0 s1 s2 s3 t0 t1 t2 t3 p0 p1 p2 p3 u0 u1 u2 u3 m0 m1 m2 lim q0 q1 q2 q3
    have wc2:wr.drew.cell? ⟨gW,k,none⟩=some (.int .u32 old):=wc
    have wf2:wr.drew.frozen? ⟨gW,k,none⟩=false:=wf
    have AW2:Hid (At wr.drew gW 257 _):=AW
    have AH2:Hid (At wr.drew gH 231 cs):=AH
    have AR2:Hid (At wr.drew gR 231 (wd Z8)):=AR
    have HB2:Hid (Below w.heap.size w wr.drew):=hide HB.out.drew
    clear wc wf AW AH AR HB
    generalize wr.drew=wv at *
    go_wp2
    go_roundw
    case rel=>exact ⟨k + 1,by omega,by go_num,AH2.out.far (by dsimp only; omega) _,AR2.out.far (by dsimp only; omega) _,by
     rw [first16_next hlt,HW.out]
     exact AW2.out.set_ k _,HB2.out.setCell (by dsimp only; omega) _⟩
    case measure=>simp [intOf]; omega
   ·have aW2:At wr gW 257 (wd (pad64 (wseq b 0))):=by
     have h:=aW
     rw [List.take_of_length_le (by rw [first16_len]; omega)] at h
     exact h
    have AH:=hide aH
    have AR:=hide aR
    have AW:=hide aW2
    have HB:=hide hbel
    clear aH aR aW aW2 hbel
    go_wp2
    go_meet
    exact ⟨AH.out,AR.out,AW.out,HB.out⟩
 case rest =>
  clear aH aR aW c2
  obtain ⟨aH,aR,aW,c2⟩:=hcut
  go_upto_block 2 with (fail)
  go_cut [] (fun wx=>At wx gH 231 cs∧At wx gR 231 (wd Z8)∧At wx gW 257 (wd (wseq b 48))∧Below w.heap.size w wx)
  case first =>
   go_wp2
   go_loopw [7] (fun i wr=>∃ k n:Nat,k=16 + n∧n≤48∧i=.int .i64 k∧At wr gH 231 cs∧At wr gR 231 (wd Z8)∧At wr gW 257 (wd (pad64 (wseq b n)))∧Below w.heap.size w wr)
    (fun i _=>64 - (intOf i).toNat)
   case atStart=>exact ⟨16,0,by omega,by omega,rfl,aH,aR,aW,c2⟩
   case round =>
    clear aH aR aW c2
    obtain ⟨k,n,hkn,hn,rfl,aH,aR,aW,hbel⟩:=hrel
    have hlen:(wseq b n).length=k:=by rw [wseq_len,hkn]
    by_cases hlt2:k < 64
    ·have hU:=wseq_32 hB n
     have hcell:∀ j,j < k→wr.cell? ⟨gW,j,none⟩=some (.int .u32 ((wseq b n).getD j 0)):=fun j hj=>by
      rw [aW.cell (by rw [pad64_len (by omega)]; omega),pad64_get (by omega)]
     have hnx:nextw (wseq b n)=((wseq b n).getD (k - 16) 0 + sg0 ((wseq b n).getD (k - 15) 0) + (wseq b n).getD (k - 7) 0 + sg1 ((wseq b n).getD (k - 2) 0)) % 4294967296:=by rw [nextw,hlen]
     have hset:=pad64_set (ws:=wseq b n) (by omega) (nextw (wseq b n))
     rw [hlen] at hset
     have q16:=hcell (k - 16) (by omega)
     have q15:=hcell (k - 15) (by omega)
     have q7:=hcell (k - 7) (by omega)
     have q2:=hcell (k - 2) (by omega)
     have wc:=aW.cell (i:=k) (by rw [pad64_len (by omega)]; omega)
     have wf:=aW.frozen k
     obtain ⟨x160,x161⟩:=hU.at_ (k - 16)
     obtain ⟨x150,x151⟩:=hU.at_ (k - 15)
     obtain ⟨x70,x71⟩:=hU.at_ (k - 7)
     obtain ⟨x20,x21⟩:=hU.at_ (k - 2)
     have hsg0:=sg0_32 ((wseq b n).getD (k - 15) 0)
     have hsg1:=sg1_32 ((wseq b n).getD (k - 2) 0)
     generalize (pad64 (wseq b n)).getD k 0=old at *
     have hdef0:sg0 ((wseq b n).getD (k - 15) 0)=bits .xor .u32 (bits .xor .u32 (rot 7 ((wseq b n).getD (k - 15) 0)) (rot 18 ((wseq b n).getD (k - 15) 0))) ((wseq b n).getD (k - 15) 0 / 8):=rfl
     have hdef1:sg1 ((wseq b n).getD (k - 2) 0)=bits .xor .u32 (bits .xor .u32 (rot 17 ((wseq b n).getD (k - 2) 0)) (rot 19 ((wseq b n).getD (k - 2) 0))) ((wseq b n).getD (k - 2) 0 / 1024):=rfl
     generalize (wseq b n).getD (k - 16) 0=y16 at *
     generalize (wseq b n).getD (k - 15) 0=y15 at *
     generalize (wseq b n).getD (k - 7) 0=y7 at *
     generalize (wseq b n).getD (k - 2) 0=y2 at *
     generalize sg0 y15=z0 at *
     generalize sg1 y2=z1 at *
     obtain ⟨z00,z01⟩:=hsg0
     obtain ⟨z10,z11⟩:=hsg1
     have hd0:=hdef0.symm
     have hd1:=hdef1.symm
     have HX:=hide hnx
     have HS:=hide hset
     have AH:=hide aH
     have AR:=hide aR
     have AW:=hide aW
     have HB:=hide hbel
     have HKN:=hide hkn
     have HL:=hide hlen
     have k16:16≤k:=by omega
     have e16:(16:Int)≤k:=by omega
     have e15:(15:Int)≤k:=by omega
     have e7:(7:Int)≤k:=by omega
     have e2:(2:Int)≤k:=by omega
     have f0:(k:Int) < 64:=by omega
     have f16:(k:Int) - 16 < 64:=by omega
     have f15:(k:Int) - 15 < 64:=by omega
     have f7:(k:Int) - 7 < 64:=by omega
     have f2:(k:Int) - 2 < 64:=by omega
     have s16:IntKind.i64.wrap ((k:Int) - 16)=(k:Int) - 16:=IntWalk.i64_in _ (by omega)
     have s15:IntKind.i64.wrap ((k:Int) - 15)=(k:Int) - 15:=IntWalk.i64_in _ (by omega)
     have s7:IntKind.i64.wrap ((k:Int) - 7)=(k:Int) - 7:=IntWalk.i64_in _ (by omega)
     have s2:IntKind.i64.wrap ((k:Int) - 2)=(k:Int) - 2:=IntWalk.i64_in _ (by omega)
     have t16:((k:Int) - 16).toNat=k - 16:=by omega
     have t15:((k:Int) - 15).toNat=k - 15:=by omega
     have t7:((k:Int) - 7).toNat=k - 7:=by omega
     have t2:((k:Int) - 2).toNat=k - 2:=by omega
     clear hnx hset aH aR aW hbel hkn hlen hdef0 hdef1 hcell hU hn
     go_wp2
     go_quiet (fail)
     go_wp2_with (first
      | (go_at_call 238; (with_reducible refine (turn7 y15 x150 x151 _).mono ?_); rintro e w' ⟨rfl,m7,rfl⟩)
      | (go_at_call 238; (with_reducible refine (turn18 y15 x150 x151 _).mono ?_); rintro e w' ⟨rfl,m18,rfl⟩)
      | (go_at_call 238; (with_reducible refine (turn17 y2 x20 x21 _).mono ?_); rintro e w' ⟨rfl,m17,rfl⟩)
      | (go_at_call 238; (with_reducible refine (turn19 y2 x20 x21 _).mono ?_); rintro e wv ⟨rfl,m19,hwv⟩
         have q16b:wv.cell? ⟨gW,k - 16,none⟩=some (.int .u32 y16):=by rw [hwv]; exact q16
         have q7b:wv.cell? ⟨gW,k - 7,none⟩=some (.int .u32 y7):=by rw [hwv]; exact q7
         have wcb:wv.cell? ⟨gW,k,none⟩=some (.int .u32 old):=by rw [hwv]; exact wc
         have wfb:wv.frozen? ⟨gW,k,none⟩=false:=by rw [hwv]; exact wf
         have AH2:Hid (At wv gH 231 cs):=by rw [hwv]; exact AH
         have AR2:Hid (At wv gR 231 (wd Z8)):=by rw [hwv]; exact AR
         have AW2:Hid (At wv gW 257 (wd (pad64 (wseq b n)))):=by rw [hwv]; exact AW
         have HB2:Hid (Below w.heap.size w wv):=by rw [hwv]; exact hide (below_drewN (below_drewN HB.out _) _)
         clear hwv q16 q7 wc wf AH AR AW HB q15 q2))
     go_still_tail 15,(by kernel_rfl)
     change wpList _ _ _ _ _ wv.drew
     clear s16 s15 s7 s2 t16 t15 t7 t2 e16 e15 e7 e2 f16 f15 f7 f2 q16b q7b
     have wc2:wv.drew.cell? ⟨gW,k,none⟩=some (.int .u32 old):=wcb
     have wf2:wv.drew.frozen? ⟨gW,k,none⟩=false:=wfb
     have AW3:Hid (At wv.drew gW 257 _):=AW2
     have AH3:Hid (At wv.drew gH 231 cs):=AH2
     have AR3:Hid (At wv.drew gR 231 (wd Z8)):=AR2
     have HB3:Hid (Below w.heap.size w wv.drew):=hide HB2.out.drew
     clear wcb wfb AW2 AH2 AR2 HB2
     generalize wv.drew=wu at *
     go_wp2
     go_roundw
     case rel=>exact ⟨k + 1,n + 1,by have:=HKN.out; omega,by have:=HKN.out; omega,by go_num,AH3.out.far (by dsimp only; omega) _,AR3.out.far (by dsimp only; omega) _,by
      rw [wseq,← HS.out,HX.out]
      exact AW3.out.set_ k _,HB3.out.setCell (by dsimp only; omega) _⟩
     case measure=>simp [intOf]; omega
    ·have h48:n=48:=by omega
     rw [h48,pad64_full (by rw [wseq_len])] at aW
     have AH:=hide aH
     have AR:=hide aR
     have AW:=hide aW
     have HB:=hide hbel
     clear aH aR aW hbel hlen hkn hn h48
     go_wp2
     go_meet
     exact ⟨AH.out,AR.out,AW.out,HB.out⟩
  case rest =>
   clear aH aR aW c2
   obtain ⟨aH,aR,aW,c2⟩:=hcut
   obtain ⟨ws,hws⟩:∃ ws,wseq b 48=ws:=⟨_,rfl⟩
   have hwl:ws.length=64:=by rw [← hws,wseq_len]
   have hwU:U32 ws:=by rw [← hws]; exact wseq_32 hB 48
   rw [hws] at aW
   have HWS:True→wseq b 48=ws:=fun _=>hws
   have AH:=hide aH
   have AR:=hide aR
   have AW:=hide aW
   have HB:=hide c2
   have HL:=hide hwl
   have HU:=hide hwU
   have HZ:Hid (cs.size=8):=by rw [← HCS.out]; exact hide rfl
   have HO1:Hid (cs.all (·.oneCell')=true):=by rw [← HCS.out]; exact hide (wd_one _)
   clear hws aH aR aW c2 hwl hwU
   go_upto_block 4 with (first
    | ((with_reducible refine at_slot 102 ?_); refine wpList_load_row rfl _ _ rfl gH rfl 231 cs (0,0) (.array 8 230) AH.out Tryz.underlying231 rfl (by rw [HZ.out]; kernel_rfl) ?_)
    | ((with_reducible refine at_slot 12 ?_); refine wpList_alloc_zero rfl _ rfl (wd Z8) (by kernel_rfl) ?_; intro wa ata ba za)
    | ((with_reducible refine at_none ?_); refine wpList_store_all rfl _ (.tmp 12) (.tmp 102) rfl _ cs rfl rfl _ _ ata (by rw [HZ.out]; kernel_rfl) (by rw [HZ.out]; rfl) HO1.out ?_; intro wb atb bb2 zb nb))
   obtain ⟨gV,hgV⟩:∃ gV,gV=wc.heap.size:=⟨_,rfl⟩
   rw [← hgV] at atb bb2 nb ⊢
   have hWV:gW < gV:=by rw [hgV]; exact AW.out.lt
   have aH:At wb gH 231 cs:=(nb gH (by omega)).trans (AH.out.step ba)
   have aR:At wb gR 231 (wd Z8):=(nb gR (by omega)).trans (AR.out.step ba)
   have aW:At wb gW 257 (wd ws):=(nb gW (by omega)).trans (AW.out.step ba)
   have cb:Below w.heap.size w wb:=HB.out.trans ((ba.mono HB.out.size).trans (bb2 _ (by rw [hgV]; exact HB.out.size)))
   have aV:At wb gV 231 (wd (rnds ws 0 s).list):=by
    have h:=atb
    rw [← HCS.out] at h
    exact h
   clear atb bb2 nb ata ba za zb AH AR AW HB hgV
   go_cut [] (fun wx=>At wx gH 231 cs∧At wx gR 231 (wd Z8)∧At wx gV 231 (wd (rnds ws 64 s).list)∧Below w.heap.size w wx)
   case first =>
    go_wp2
    go_loopw [13] (fun i wr=>∃ n:Nat,n≤64∧i=.int .i64 n∧At wr gH 231 cs∧At wr gR 231 (wd Z8)∧At wr gW 257 (wd ws)∧At wr gV 231 (wd (rnds ws n s).list)∧Below w.heap.size w wr)
     (fun i _=>64 - (intOf i).toNat)
    case atStart=>exact ⟨0,by omega,rfl,aH,aR,aW,aV,cb⟩
    case round =>
     clear aH aR aW aV cb
     obtain ⟨n,hn,rfl,aH,aR,aW,aV,hbel⟩:=hrel
     by_cases hlt3:n < 64
     ·have hok:(rnds ws n s).Ok:=rnds_ok ws hs n
      obtain ⟨s2,hs2⟩:∃ s2,rnds ws n s=s2:=⟨_,rfl⟩
      rw [hs2] at aV hok
      obtain ⟨a,b',c',d,e,f,g,h⟩:=s2
      obtain ⟨⟨a0,a1⟩,⟨b0,b1⟩,⟨c0,c1⟩,⟨d0,d1⟩,⟨e0,e1⟩,⟨f0,f1⟩,⟨g0,g1⟩,⟨h0,h1⟩⟩:=hok
      dsimp only at a0 a1 b0 b1 c0 c1 d0 d1 e0 e1 f0 f1 g0 g1 h0 h1
      have va:wr.cell? ⟨gV,0,none⟩=some (.int .u32 a):=aV.cell (i:=0) (by simp [S8.list])
      have vb:wr.cell? ⟨gV,1,none⟩=some (.int .u32 b'):=aV.cell (i:=1) (by simp [S8.list])
      have vc:wr.cell? ⟨gV,2,none⟩=some (.int .u32 c'):=aV.cell (i:=2) (by simp [S8.list])
      have vd:wr.cell? ⟨gV,3,none⟩=some (.int .u32 d):=aV.cell (i:=3) (by simp [S8.list])
      have ve:wr.cell? ⟨gV,4,none⟩=some (.int .u32 e):=aV.cell (i:=4) (by simp [S8.list])
      have vf:wr.cell? ⟨gV,5,none⟩=some (.int .u32 f):=aV.cell (i:=5) (by simp [S8.list])
      have vg:wr.cell? ⟨gV,6,none⟩=some (.int .u32 g):=aV.cell (i:=6) (by simp [S8.list])
      have vh:wr.cell? ⟨gV,7,none⟩=some (.int .u32 h):=aV.cell (i:=7) (by simp [S8.list])
      have vw:wr.cell? ⟨gW,n,none⟩=some (.int .u32 (ws.getD n 0)):=aW.cell (by rw [HL.out]; exact hlt3)
      obtain ⟨x0,x1⟩:=HU.out.at_ n
      obtain ⟨x,hxe⟩:∃ x,ws.getD n 0=x:=⟨_,rfl⟩
      rw [hxe] at vw x0 x1
      have HS2:=hide hs2
      have AH:=hide aH
      have AR:=hide aR
      have AW:=hide aW
      have AV:=hide aV
      have HB:=hide hbel
      clear hs2 aH aR aW aV hbel
      have hnot:(if IntKind.u32.signed=true then (-1:Int) else IntKind.u32.max)=4294967295:=rfl
      obtain ⟨S1,hS1,S10,S11⟩:∃ S1,bits .xor .u32 (bits .xor .u32 (rot 6 e) (rot 11 e)) (rot 25 e)=S1∧0≤S1∧S1≤4294967295:=⟨_,rfl,bits32 _ _ _⟩
      obtain ⟨CH,hCH,CH0,CH1⟩:∃ CH,bits .xor .u32 (bits .and .u32 e f) (bits .and .u32 (bits .xor .u32 4294967295 e) g)=CH∧0≤CH∧CH≤4294967295:=⟨_,rfl,bits32 _ _ _⟩
      obtain ⟨S0,hS0,S00,S01⟩:∃ S0,bits .xor .u32 (bits .xor .u32 (rot 2 a) (rot 13 a)) (rot 22 a)=S0∧0≤S0∧S0≤4294967295:=⟨_,rfl,bits32 _ _ _⟩
      obtain ⟨MJ,hMJ,MJ0,MJ1⟩:∃ MJ,bits .xor .u32 (bits .xor .u32 (bits .and .u32 a b') (bits .and .u32 a c')) (bits .and .u32 b' c')=MJ∧0≤MJ∧MJ≤4294967295:=⟨_,rfl,bits32 _ _ _⟩
      obtain ⟨kn,hkn⟩:∃ kn,KL.getD n 0=kn:=⟨_,rfl⟩
      have hstep:rnds ws (n + 1) s=⟨(h + S1 + CH + kn + x + S0 + MJ) % 4294967296,a,b',c',(d + (h + S1 + CH + kn + x)) % 4294967296,e,f,g⟩:=by
       rw [rnds,HS2.out,← hS1,← hCH,← hS0,← hMJ,← hkn,← hxe]
       rfl
      have HST:=hide hstep
      have HK:=hide hkn
      have HXE:=hide hxe
      clear hstep hkn hxe
      go_upto_region 17 with (fail)
      go_quiet ((go_at_call 238; first | (with_reducible exact Calls.quiet_of (turn6 e e0 e1 _)) | (with_reducible exact Calls.quiet_of (turn11 e e0 e1 _)) | (with_reducible exact Calls.quiet_of (turn25 e e0 e1 _))))
      go_upto_region 19 with (fail)
      have va2:(wr.drewN nq).cell? ⟨gV,0,none⟩=some (.int .u32 a):=va
      have vb2:(wr.drewN nq).cell? ⟨gV,1,none⟩=some (.int .u32 b'):=vb
      have vc2:(wr.drewN nq).cell? ⟨gV,2,none⟩=some (.int .u32 c'):=vc
      have vd2:(wr.drewN nq).cell? ⟨gV,3,none⟩=some (.int .u32 d):=vd
      have ve2:(wr.drewN nq).cell? ⟨gV,4,none⟩=some (.int .u32 e):=ve
      have vf2:(wr.drewN nq).cell? ⟨gV,5,none⟩=some (.int .u32 f):=vf
      have vg2:(wr.drewN nq).cell? ⟨gV,6,none⟩=some (.int .u32 g):=vg
      have vh2:(wr.drewN nq).cell? ⟨gV,7,none⟩=some (.int .u32 h):=vh
      have vw2:(wr.drewN nq).cell? ⟨gW,n,none⟩=some (.int .u32 x):=vw
      clear va vb vc vd ve vf vg vh vw
      have hwz:gV < wr.heap.size:=AV.out.lt
      have AH2:Hid (At (wr.drewN nq) gH 231 cs):=AH
      have AR2:Hid (At (wr.drewN nq) gR 231 (wd Z8)):=AR
      have AW2:Hid (At (wr.drewN nq) gW 257 (wd ws)):=AW
      have AV2:Hid (At (wr.drewN nq) gV 231 (wd [a,b',c',d,e,f,g,h])):=AV
      have HB2:Hid (Below w.heap.size w (wr.drewN nq)):=hide (below_drewN HB.out nq)
      clear AH AR AW AV HB hwz
      generalize wr.drewN nq=wq at *
      go_cut [16] (fun s16 wx=>s16=.int .u32 ((h + S1 + CH + kn + x) % 4294967296)∧At wx gH 231 cs∧At wx gR 231 (wd Z8)∧At wx gW 257 (wd ws)∧At wx gV 231 (wd [a,b',c',d,e,f,g,h])∧Below w.heap.size w wx)
      case first =>
       clear va2 vb2 vc2 vd2 ve2 vf2 vg2
       have AV3:Hid (At wq.drew gV 231 (wd [a,b',c',d,e,f,g,h])):=AV2
       have AW3:Hid (At wq.drew gW 257 (wd ws)):=AW2
       go_region_with (go_at_call 239; (with_reducible refine (specRound n hlt3 _).mono ?_); rintro e' wk ⟨rfl,bk⟩; rw [HK.out]; have vhk:wk.cell? ⟨gV,7,none⟩=some (.int .u32 h):=(AV3.out.step bk).cell (ws:=[a,b',c',d,e,f,g,h]) (i:=7) (by simp); have vwk:wk.cell? ⟨gW,n,none⟩=some (.int .u32 x):=((AW3.out.step bk).cell (by rw [HL.out]; exact hlt3)).trans (by rw [HXE.out]))
       all_goals go_wp2_with fail
       all_goals go_meet
       all_goals exact ⟨congrArg (Value.int .u32) (wrap4 _ _ _ _ _),(show At wq.drew gH _ _ from AH2).step bk,(show At wq.drew gR _ _ from AR2).step bk,AW3.out.step bk,AV3.out.step bk,HB2.out.drew.trans (bk.mono HB2.out.size)⟩
      case rest =>
       clear va2 vb2 vc2 vd2 ve2 vf2 vg2 vh2 vw2 AH2 AR2 AW2 AV2 HB2
       obtain ⟨rfl,aH,aR,aW,aV,hbel⟩:=hcut
       have va:_=some (Value.int .u32 a):=aV.cell (ws:=[a,b',c',d,e,f,g,h]) (i:=0) (by simp)
       have vb:_=some (Value.int .u32 b'):=aV.cell (ws:=[a,b',c',d,e,f,g,h]) (i:=1) (by simp)
       have vc:_=some (Value.int .u32 c'):=aV.cell (ws:=[a,b',c',d,e,f,g,h]) (i:=2) (by simp)
       have vd:_=some (Value.int .u32 d):=aV.cell (ws:=[a,b',c',d,e,f,g,h]) (i:=3) (by simp)
       have ve:_=some (Value.int .u32 e):=aV.cell (ws:=[a,b',c',d,e,f,g,h]) (i:=4) (by simp)
       have vf:_=some (Value.int .u32 f):=aV.cell (ws:=[a,b',c',d,e,f,g,h]) (i:=5) (by simp)
       have vg:_=some (Value.int .u32 g):=aV.cell (ws:=[a,b',c',d,e,f,g,h]) (i:=6) (by simp)
       have vh:_=some (Value.int .u32 h):=aV.cell (ws:=[a,b',c',d,e,f,g,h]) (i:=7) (by simp)
       have AH:=hide aH
       have AR:=hide aR
       have AW:=hide aW
       have AV:=hide aV
       have HB:=hide hbel
       clear aH aR aW aV hbel
       go_upto_region 20 with (fail)
       go_quiet ((go_at_call 238; first | (with_reducible exact Calls.quiet_of (turn2 a a0 a1 _)) | (with_reducible exact Calls.quiet_of (turn13 a a0 a1 _)) | (with_reducible exact Calls.quiet_of (turn22 a a0 a1 _))))
       go_upto_region 22 with (fail)
       have AV2:Hid (At (wc.drewN nq) gV 231 (wd [a,b',c',d,e,f,g,h])):=AV
       have AH2:Hid (At (wc.drewN nq) gH 231 cs):=AH
       have AR2:Hid (At (wc.drewN nq) gR 231 (wd Z8)):=AR
       have AW2:Hid (At (wc.drewN nq) gW 257 (wd ws)):=AW
       have HB2:Hid (Below w.heap.size w (wc.drewN nq)):=hide (below_drewN HB.out nq)
       have va2:(wc.drewN nq).cell? ⟨gV,0,none⟩=some (.int .u32 a):=va
       have vb2:(wc.drewN nq).cell? ⟨gV,1,none⟩=some (.int .u32 b'):=vb
       have vc2:(wc.drewN nq).cell? ⟨gV,2,none⟩=some (.int .u32 c'):=vc
       have vd2:(wc.drewN nq).cell? ⟨gV,3,none⟩=some (.int .u32 d):=vd
       have ve2:(wc.drewN nq).cell? ⟨gV,4,none⟩=some (.int .u32 e):=ve
       have vf2:(wc.drewN nq).cell? ⟨gV,5,none⟩=some (.int .u32 f):=vf
       have vg2:(wc.drewN nq).cell? ⟨gV,6,none⟩=some (.int .u32 g):=vg
       have vh2:(wc.drewN nq).cell? ⟨gV,7,none⟩=some (.int .u32 h):=vh
       clear va vb vc vd ve vf vg vh AV AH AR AW HB
       generalize wc.drewN nq=wq at *
       go_wp2_with ((with_reducible refine at_none ?_); (refine wpList_store_all rfl _ (.tmp 12) (.tmp 192) rfl gV (wd [_,a,b',c',_,e,f,g]) rfl rfl _ _ AV2.out (by kernel_rfl) rfl (wd_one _) ?_); intro wz atz bz zz nz)
       go_roundw
       case rel =>
        have hend:At wz gV 231 (wd (rnds ws (n + 1) s).list):=by
         have key:∀ p q p' q' : Int,p=p'→q=q'→At wz gV 231 (wd [p,a,b',c',q,e,f,g])→At wz gV 231 (wd [p',a,b',c',q',e,f,g]):=by
          rintro p q _ _ rfl rfl h
          exact h
         rw [HST.out]
         refine key _ _ _ _ ?_ ?_ atz
         ·dsimp only
         ·dsimp only
        exact ⟨n + 1,by omega,by go_num,(nz gH (by omega)).trans AH2.out,(nz gR (by omega)).trans AR2.out,(nz gW (by omega)).trans AW2.out,hend,HB2.out.trans (bz _ (by omega))⟩
       case measure=>simp [intOf]; omega
     ·have h64:n=64:=by omega
      rw [h64] at aV
      have AH:=hide aH
      have AR:=hide aR
      have AV:True→At wr gV 231 (wd (rnds ws 64 s).list):=fun _=>aV
      have HB:=hide hbel
      clear aH aR aW aV hbel hn h64
      go_wp2
      go_meet
      exact ⟨AH.out,AR.out,AV trivial,HB.out⟩
   case rest =>
    obtain ⟨aH,aR,aV,hbel⟩:=hcut
    have hokf:(rnds ws 64 s).Ok:=rnds_ok ws hs 64
    obtain ⟨r,hr⟩:∃ r,rnds ws 64 s=r:=⟨_,rfl⟩
    rw [hr] at aV hokf
    have HR:True→rnds ws 64 s=r:=fun _=>hr
    rw [← HCS.out] at aH
    have hus:=S8.list_32 hs
    have hur:=S8.list_32 hokf
    obtain ⟨xs,hxs⟩:∃ xs,s.list=xs:=⟨_,rfl⟩
    obtain ⟨ys,hys⟩:∃ ys,r.list=ys:=⟨_,rfl⟩
    have hx8:xs.length=8:=by rw [← hxs]; rfl
    have hy8:ys.length=8:=by rw [← hys]; rfl
    rw [hxs] at aH hus
    rw [hys] at aV hur
    have aM:At wc gH 231 (wd (mixed xs ys 0)):=by
     simpa [mixed] using aH
    have HX8:=hide hx8
    have HY8:=hide hy8
    have HUS:=hide hus
    have HUR:=hide hur
    have HXS:True→s.list=xs:=fun _=>hxs
    have HYS:True→r.list=ys:=fun _=>hys
    have HRR:=hide aR
    clear hr hxs hys hx8 hy8 hus hur hokf aH
    go_upto_block 6 with (fail)
    go_cut [] (fun wx=>At wx gH 231 (wd (add8 xs ys))∧At wx gR 231 (wd Z8)∧Below w.heap.size w wx)
    case first =>
     go_wp2
     go_loopw [19] (fun i wr=>∃ k:Nat,k≤8∧i=.int .i64 k∧At wr gH 231 (wd (mixed xs ys k))∧At wr gR 231 (wd Z8)∧At wr gV 231 (wd ys)∧Below w.heap.size w wr)
      (fun i _=>8 - (intOf i).toNat)
     case atStart=>exact ⟨0,by omega,rfl,aM,HRR.out,aV,hbel⟩
     case round =>
      clear aM HRR aV hbel
      obtain ⟨k,hk,rfl,aM,aR,aV,hbel⟩:=hrel
      by_cases hlt4:k < 8
      ·have q1:wr.cell? ⟨gH,k,none⟩=some (.int .u32 (xs.getD k 0)):=by
        rw [← mixed_get (xs:=xs) (ys:=ys) (by rw [HX8.out,HY8.out]) (by rw [HX8.out]; exact hlt4)]
        exact aM.cell (by rw [mixed_len (by rw [HX8.out,HY8.out]),HX8.out]; exact hlt4)
       have q2:wr.cell? ⟨gV,k,none⟩=some (.int .u32 (ys.getD k 0)):=aV.cell (by rw [HY8.out]; exact hlt4)
       have wf:=aM.frozen k
       have hset:=mixed_set (xs:=xs) (ys:=ys) (by rw [HX8.out,HY8.out]) (k:=k) (by rw [HX8.out]; exact hlt4)
       obtain ⟨x0,x1⟩:=HUS.out.at_ k
       obtain ⟨y0,y1⟩:=HUR.out.at_ k
       generalize xs.getD k 0=x at *
       generalize ys.getD k 0=y at *
       have HS:=hide hset
       have AM:=hide aM
       have AR:=hide aR
       have AV:=hide aV
       have HB:=hide hbel
       clear hset aM aR aV hbel
       go_wp2
       go_still_tail 9,(by kernel_rfl)
       change wpList _ _ _ _ _ wr.drew
       have q1b:wr.drew.cell? ⟨gH,k,none⟩=some (.int .u32 x):=q1
       have wfb:wr.drew.frozen? ⟨gH,k,none⟩=false:=wf
       have AM2:Hid (At wr.drew gH 231 (wd (mixed xs ys k))):=AM
       have AR2:Hid (At wr.drew gR 231 (wd Z8)):=AR
       have AV2:Hid (At wr.drew gV 231 (wd ys)):=AV
       have HB2:Hid (Below w.heap.size w wr.drew):=hide HB.out.drew
       clear q1 q2 wf AM AR AV HB
       generalize wr.drew=wu at *
       go_wp2
       go_roundw
       case rel=>exact ⟨k + 1,by omega,by go_num,by
        rw [← HS.out]
        exact AM2.out.set_ k _,AR2.out.far (by dsimp only; omega) _,AV2.out.far (by dsimp only; omega) _,HB2.out.setCell (by dsimp only; omega) _⟩
       case measure=>simp [intOf]; omega
      ·have h8:k=8:=by omega
       have aF:At wr gH 231 (wd (add8 xs ys)):=by
        rw [← mixed_end (xs:=xs) (ys:=ys) (by rw [HX8.out,HY8.out]),HX8.out,← h8]
        exact aM
       have AF:=hide aF
       have AR:=hide aR
       have HB:=hide hbel
       clear aM aF aR aV hbel h8
       go_wp2
       go_meet
       exact ⟨AF.out,AR.out,HB.out⟩
    case rest =>
     clear aM HRR aV hbel
     obtain ⟨aF,aR,hbel⟩:=hcut
     have hout:wd (add8 xs ys)=OUT:=by rw [← HOUT trivial,HWS trivial,HR trivial,HXS trivial,HYS trivial]
     rw [hout] at aF
     have hos:OUT.size=8:=by rw [← hout,wd_size,add8,List.length_zipWith,HX8.out,HY8.out]; rfl
     have hoo:OUT.all (·.oneCell')=true:=by rw [← hout]; exact wd_one _
     have AF:=hide aF
     have AR:=hide aR
     have HB:=hide hbel
     have HOS:=hide hos
     have HOO:=hide hoo
     clear aF aR hbel hos hoo hout
     go_wp2_with (first
      | ((with_reducible refine at_slot 206 ?_); refine wpList_load_row rfl _ _ rfl gH rfl 231 OUT (0,0) (.array 8 230) AF.out Tryz.underlying231 rfl (by rw [HOS.out]; kernel_rfl) ?_)
      | ((with_reducible refine at_none ?_); refine wpList_store_all rfl _ (.tmp 4) (.tmp 206) rfl gR OUT rfl rfl _ _ AR.out (by rw [HOS.out]; kernel_rfl) (by rw [HOS.out]; rfl) HOO.out ?_; intro wz atz bz zz nz))
     exact bodyPost_ret (results_cell_row rfl _ _ gR 231 OUT (0,0) (.array 8 230) rfl atz Tryz.underlying231 rfl (by rw [HOS.out]; kernel_rfl)) rfl ⟨rfl,HB.out.trans (bz _ (by omega))⟩
end Go.Proofs.YtgaadpkefncnmaaGreatDoor
