/-
  Parts of the proof: ShaT.
-/
import Derived.Test.YtgaadpkefncnmaaGreatDoorMp17
import Derived.Test.YtgaadpkefncnmaaGreatDoorMp7
import Derived.Test.YtgaadpkefncnmaaGreatDoorMp0
import Derived.StillTailTactics
import Derived.Deep.AppendLies
/-
  The model's hash.
-/
namespace Go.Proofs.YtgaadpkefncnmaaGreatDoor
open Go.RowKit
set_option linter.unusedVariables false
/-- A whole array loaded in a region of which only the tail writes. -/
theorem wpStill_load_row {P:Program} {ops:Array Oper} {rest:List Oper} {o:Oper} {a:Act} {w:World} {Q:Act→Prop} (hgd:o.guard=none) (ty:TypeId) (x:Operand) (ho:o.op=.load ty x)
  (g:Nat) (hx:a.eval x=.pointer (some ⟨g,0,none⟩)) (t:TypeId) (cs:Array Value) (fr:Nat × Nat) (d:TypeDesc) (hg:w.heap[g]? = some (.cells cs t fr))
  (hu:P.underlying ty=some d) (hd:(match d with | .struct _ | .array _ _=>true | _=>false)=true) (hi:(P.info? ty).map (·.size)=some cs.size)
  (h:wpStill P ops w Q rest (a.put o.dst (.agg cs))):wpStill P ops w Q (o :: rest) a:=by
 refine wpStill_step fun K hK=>?_
 have hw:Region.wanted o (yielded ops a.tmps)=true:=by simp [Region.wanted,hgd]
 rw [if_pos hw]
 unfold Oper.still execOp
 simp only [ho,hx,Instr.loadAt,Instr.sureAddr,Sem.run_bind,Sem.run_pure,Result.andThen_ok,run_loadVar_row w g t ty cs fr d hg hu hd hi,Oper.stillUpon]
 exact ⟨trivial,hK _ h⟩
set_option maxRecDepth 20000 in
set_option maxHeartbeats 800000 in
theorem specFirst (w:World) :
  Calls Tryz.prog 209 #[] w fun e w'=>e=.returned (.agg (wd S0.list))∧Below w.heap.size w w':=by
 go_enter Tryz.func209,Tryz.ntmps209
 go_wp2_with (first
  | (refine wpList_build_as (o:=⟨some 1,_,_,_,_,_⟩) (wd S0.list) rfl _ _ rfl (by kernel_rfl) ?_; generalize hK:wd S0.list=K; have HK:=hide hK; clear hK)
  | (refine wpList_alloc_zero (o:=⟨some 0,_,_,_,_,_⟩) rfl _ rfl (wd Z8) (by kernel_rfl) ?_; intro w1 at1 b1 z1)
  | (refine wpList_store_all (o:=⟨none,_,_,_,_,_⟩) rfl _ _ _ rfl w.heap.size K rfl rfl _ _ at1 (by rw [← HK.out]; kernel_rfl) (by rw [← HK.out]; kernel_rfl) (by rw [← HK.out]; exact wd_one _) ?_; intro w2 at2 b2 z2 n2))
 exact bodyPost_ret (results_cell_row rfl _ _ w.heap.size 231 K (0,0) (.array 8 230) rfl at2 Tryz.underlying231 rfl (by rw [← HK.out]; kernel_rfl)) rfl ⟨by rw [HK.out],b1.trans (b2 _ (Nat.le_refl _))⟩
set_option maxRecDepth 20000 in
set_option maxHeartbeats 1600000 in
theorem specSum (l:List Int) (hB:Byt l) (v:Value) (w:World) (hv:Rd w v (bs l)) (hl:l.length≤1000000) :
  Calls Tryz.prog 185 #[v] w fun e w'=>∃ v',e=.returned v'∧Own 5 w.heap.size w'.heap.size w' v' (bs (shaL l))∧Below w.heap.size w w':=by
 obtain ⟨i0,hi0,hz0,hz1,hz2⟩:=info_parts u8info
 obtain ⟨A,c,hV,hc1,hc2,_⟩:=id hv
 rw [bs_length] at *
 unfold maxLen at hc2
 subst hV
 have HV:=hide hv
 clear hv
 obtain ⟨z,hzp⟩:∃ z,zpad l.length=z:=⟨_,rfl⟩
 have hz:z=(119 - l.length % 64) % 64:=by rw [← hzp,zpad]
 have HZP:=hide hzp
 have HZ:=hide hz
 have hz64:z < 64:=by omega
 clear hzp hz
 go_enter Tryz.func185,Tryz.ntmps185
 go_upto_block 0 with (first
  | ((with_reducible refine at_slot 12 ?_); refine wpList_app _ rfl (.tmp 10) (.tmp 11) _ rfl w.heap.size 5 i0 _ 1 Tryz.underlying39 hi0 hz0 hz1 hz2 rfl _ 0 [] rfl (own_lit0 w _) _ (bs l) rfl (HV.out.alloc _) (bs_one l) (by rw [bs_length]; simp only [maxLen]; omega) (by rw [bs_length]; omega) (by simp) ?_; intro v1 w1 own1 gr1)
  | ((with_reducible refine at_slot 14 ?_); refine wpList_app _ rfl (.tmp 12) (.tmp 13) _ rfl w.heap.size 5 i0 _ 1 Tryz.underlying39 hi0 hz0 hz1 hz2 rfl _ _ _ rfl (own1.alloc _) _ _ rfl (rd_one _ _ _) (bs_one _) (by rw [bs_length,bs_length]; simp only [maxLen,List.length_singleton]; omega) (by rw [bs_length,bs_length]; simp only [List.length_singleton]; omega) (by have:=(below_app0 gr1).size; simp; omega) ?_; intro v2 w2 own2 gr2))
 have b1:=below_app0 gr1
 have b2:Below w.heap.size w w2:=Below.row (b1.alloc b1.size _) (by have:=b1.size; simp; omega) (own1.alloc _) gr2
 have o2:w2.ownsRow w.heap.size 5 1 v2 (l.length + 1 + 0) (bs (l++[128]++zeros 0)):=own_len (own_cells own2 (by simp [bs,zeros])) (by simp [bs])
 clear own1 b1 own2 gr2 gr1
 go_cut [3] (fun v3 wx=>wx.ownsRow w.heap.size 5 1 v3 (l.length + 1 + z) (bs (l++[128]++zeros z))∧Below w.heap.size w wx)
 case first =>
  go_wp2
  go_loopw [3] (fun v5 wr=>∃ k:Nat,k≤z∧wr.ownsRow w.heap.size 5 1 v5 (l.length + 1 + k) (bs (l++[128]++zeros k))∧Below w.heap.size w wr)
   (fun v5 _=>l.length + 200 - lenV v5)
  case atStart=>exact ⟨0,by omega,o2,b2⟩
  case round =>
   clear o2 b2
   obtain ⟨k,hk,hown,hbel⟩:=hrel
   obtain ⟨A,c,rfl,hc1,hc2⟩:=own_slice hown
   have HO:=hide hown
   have HB:=hide hbel
   clear hown hbel
   have hsz:=HB.out.size
   by_cases hlt:k < z
   ·have h56:((l.length:Int) + 1 + (k:Int)) % 64≠56:=by have hz:=HZ.out; omega
    go_wp2_with ((with_reducible refine at_slot 21 ?_); refine wpList_app _ rfl (.tmp 19) (.tmp 20) _ rfl w.heap.size 5 i0 _ 1 Tryz.underlying39 hi0 hz0 hz1 hz2 rfl _ _ _ rfl (HO.out.alloc _) _ _ rfl (rd_one _ _ _) (bs_one _) (by rw [bs_length]; simp only [maxLen,List.length_singleton]; omega) (by rw [bs_length]; simp only [List.length_singleton]; omega) (by simp; omega) ?_; intro v3 w3 own3 gr3)
    obtain ⟨A3,c3,rfl,_,_⟩:=own_slice own3
    go_roundw
    case rel=>exact ⟨k + 1,by omega,own_len (own_cells own3 (by rw [← zeros_next,← List.append_assoc,bs_append _ [0]])) (by simp [bs]; omega),Below.row (HB.out.alloc hsz _) (by simp; omega) (HO.out.alloc _) gr3⟩
    case measure=>simp [lenV,bs_length]; omega
   ·have hkz:k=z:=by omega
    subst hkz
    have h56:((l.length:Int) + 1 + (k:Int)) % 64=56:=by have hz:=HZ.out; omega
    go_wp2
    go_meet
    exact ⟨HO.out,HB.out⟩
 case rest =>
  clear o2 b2
  obtain ⟨o2,b2⟩:=hcut
  have o3:=own_len (own_cells o2 (ys:=bs (l++[128]++zeros z++lenB l.length 0)) (by simp [lenB])) (m:=l.length + 1 + z + 0) rfl
  clear o2
  go_upto_block 2 with (fail)
  go_cut [3] (fun v3 wx=>wx.ownsRow w.heap.size 5 1 v3 (msg l).length (bs (msg l))∧Below w.heap.size w wx)
  case first =>
   go_wp2
   go_loopw [3,5] (fun v5 q wr=>∃ j:Nat,j≤8∧q=.int .i64 (7 - j)∧wr.ownsRow w.heap.size 5 1 v5 (l.length + 1 + z + j) (bs (l++[128]++zeros z++lenB l.length j))∧Below w.heap.size w wr)
    (fun _ q _=>(intOf q + 8).toNat)
   case atStart=>exact ⟨0,by omega,by go_num,o3,b2⟩
   case round =>
    clear o3 b2
    obtain ⟨j,hj,rfl,hown,hbel⟩:=hrel
    have HO:=hide hown
    have HB:=hide hbel
    clear hown hbel
    have hsz:=HB.out.size
    by_cases hlt:j < 8
    ·have hsh:(8 * ((7:Int) - (j:Int))).toNat=8 * (7 - j):=by omega
     go_wp2_with ((with_reducible refine at_slot 36 ?_); refine wpList_app _ rfl (.tmp 29) (.tmp 35) _ rfl w.heap.size 5 i0 _ 1 Tryz.underlying39 hi0 hz0 hz1 hz2 rfl _ _ _ rfl (HO.out.alloc _) _ _ rfl (rd_one _ _ _) (bs_one _) (by rw [bs_length]; simp only [maxLen,List.length_singleton]; omega) (by rw [bs_length]; simp only [List.length_singleton]; omega) (by simp; omega) ?_; intro v3 w3 own3 gr3)
     go_roundw
     case rel=>exact ⟨j + 1,by omega,by go_num,own_len (own_cells own3 (by rw [lenB,← List.append_assoc,bs_append _ [_]])) (by simp [bs]; omega),Below.row (HB.out.alloc hsz _) (by simp; omega) (HO.out.alloc _) gr3⟩
     case measure=>simp [intOf]; omega
    ·obtain rfl:j=8:=by omega
     go_wp2
     go_meet
     refine ⟨own_len (own_cells HO.out ?_) ?_,HB.out⟩
     ·rw [msg,tailB,HZP.out]; simp
     ·rw [msg_len,tailB_len,HZP.out]; omega
  case rest =>
   clear o3 b2
   obtain ⟨o3,b2⟩:=hcut
   rename World=>wa
   obtain ⟨m,hm⟩:∃ m,msg l=m:=⟨_,rfl⟩
   have hmB:Byt m:=by rw [← hm]; exact msg_byt hB
   have hmm:m.length % 64=0:=by rw [← hm,msg_len]; exact pad_mod _
   have hml:m.length≤1000100:=by rw [← hm,msg_len]; have:=pad_le l.length; omega
   rw [hm] at o3
   have HM:=hide hm
   clear hm
   obtain ⟨n,hn⟩:∃ n,m.length=64 * n:=⟨m.length / 64,by omega⟩
   have hcn:m.length / 64=n:=by omega
   have HCN:=hide hcn
   clear hcn
   have oa:=Own.of o3 (bs_length _).symm
   have ra:=oa.rd
   obtain ⟨A3,c3,rfl,e1,e2,hrd⟩:=id ra
   rw [bs_length] at *
   unfold maxLen at e2
   have RA:=hide ra
   have OA:=hide oa
   have BC:=hide b2
   clear ra oa b2 o3
   go_upto_block 4 with (first
    | (go_at_call 209; (with_reducible refine (specFirst wa).mono ?_); rintro e w1 ⟨rfl,b1⟩)
    | ((with_reducible refine at_slot 6 ?_); refine wpList_alloc_zero rfl _ rfl (wd Z8) (by kernel_rfl) ?_; intro w4 at4 b4 z4)
    | ((with_reducible refine at_none ?_); refine wpList_store_all rfl _ _ _ rfl w1.heap.size (wd S0.list) rfl rfl _ _ at4 (by kernel_rfl) (by kernel_rfl) (wd_one _) ?_; intro w5 at5 b5 z5 n5))
   obtain ⟨g,hg⟩:∃ g,g=w1.heap.size:=⟨_,rfl⟩
   rw [← hg] at at5 ⊢
   have hgw:wa.heap.size≤g:=by rw [hg]; exact b1.size
   have b6:Below wa.heap.size wa w5:=(b1.trans (b4.mono b1.size)).trans (b5 _ (by omega))
   clear at4 b1 b4 b5 z4 z5 n5 hg
   have a6:At w5 g 231 (wd (hashN S0 m 0).list):=at5
   clear at5
   go_cut [] (fun wx=>At wx g 231 (wd (hashN S0 m n).list)∧Below wa.heap.size wa wx)
   case first =>
    go_wp2
    go_loopw [7] (fun i wr=>∃ k:Nat,k≤n∧i=.int .i64 (64 * k)∧At wr g 231 (wd (hashN S0 m k).list)∧Below wa.heap.size wa wr)
     (fun i _=>m.length - (intOf i).toNat)
    case atStart=>exact ⟨0,by omega,by go_num,a6,b6⟩
    case round =>
     clear a6 b6
     obtain ⟨k,hk,rfl,hat,hbel⟩:=hrel
     have HA:=hide hat
     have HB:=hide hbel
     clear hat hbel
     by_cases hlt:k < n
     ·obtain ⟨b,off,rfl,hblt,hcell⟩:=hrd (by omega)
      have hpart:∀ W,Below wa.heap.size wa W→Rd W (.slice (some ⟨b,off + 64 * k,none⟩) 64 (c3 - 64 * k)) (bs (blk64 m k)):=fun W hW =>
       (Rd.part hcell hblt (k:=64 * k) (n:=64) (by omega) (by omega) (by unfold maxLen; omega) rfl).below hW
      have hblk:=specBlock (hashN S0 m k) (hashN_ok S0_ok _ _) (blk64 m k) (blk_byt hmB k) (blk_len (by omega))
      rw [← blockS_list] at hblk
      clear hcell hrd
      have q0:IntKind.i64.wrap (64 * (k:Int) + 64)=64 * (k:Int) + 64:=IntWalk.i64_in _ (by omega)
      have q1:(0:Int)≤64 * (k:Int) + 64:=by omega
      have q2:(64 * (k:Int) + 64).toNat=64 * k + 64:=by omega
      have q3:(64 * (k:Int)).toNat=64 * k:=by omega
      have q4:(0:Int)≤64 * (k:Int):=by omega
      have q5:64 * (k:Int) + 64≤(c3:Int):=by omega
      have q6:64 * (k:Int)≤64 * (k:Int) + 64:=by omega
      have q7:¬ c3=64 * k:=by omega
      go_wp2
      go_still_tail 6,(by kernel_rfl)
      refine wpStill_load_row rfl _ _ rfl g rfl 231 _ (0,0) (.array 8 230) HA.out Tryz.underlying231 rfl (by rw [wd_size]; kernel_rfl) ?_
      repeat still_step
      refine wpStill_nil ?_
      change wpList _ _ _ _ _ wr.drew
      clear q0 q1 q2 q3 q4 q5 q6 q7
      have HA2:Hid (At wr.drew g 231 _):=HA
      have HB2:Hid (Below wa.heap.size wa wr.drew):=hide HB.out.drew
      clear HA HB
      generalize wr.drew=wu at *
      have hpu:=hpart wu HB2.out
      clear hpart
      go_wp2_with (first
       | (go_at_call 210; (with_reducible refine (hblk _ wu hpu).mono ?_); rintro e wk ⟨rfl,bk⟩)
       | ((with_reducible refine at_none ?_); refine wpList_store_all rfl _ _ _ rfl g (wd (blockS (hashN S0 m k) (blk64 m k)).list) rfl rfl _ _ (HA2.out.step bk) (by rw [wd_size]; kernel_rfl) (by rw [wd_size,wd_size]; rfl) (wd_one _) ?_; intro wz atz bz zz nz))
      go_roundw
      case rel=>exact ⟨k + 1,by omega,by go_num,atz,(HB2.out.trans (bk.mono HB2.out.size)).trans (bz _ hgw)⟩
      case measure=>simp [intOf]; omega
     ·obtain rfl:k=n:=by omega
      go_wp2
      go_meet
      exact ⟨HA.out,HB.out⟩
   case rest =>
    clear a6 b6 hrd
    obtain ⟨a6,b6⟩:=hcut
    obtain ⟨s,hs⟩:∃ s,hashN S0 m n=s:=⟨_,rfl⟩
    have hok:s.Ok:=by rw [← hs]; exact hashN_ok S0_ok _ _
    rw [hs] at a6
    have hout:shaL l=outB s.list:=by rw [shaL,HM.out,HCN.out,hs]
    have hu:=S8.list_32 hok
    have h8:s.list.length=8:=rfl
    generalize s.list=ws at *
    have HG:=hide a6
    have H8:=hide h8
    have HOUT:=hide hout
    have BW:Hid (Below w.heap.size w wc):=hide (BC.out.trans (b6.mono BC.out.size))
    clear a6 h8 hout hs hok b6
    go_wp2
    go_loopw [8,9] (fun v3 q wr=>∃ k:Nat,k≤8∧q=.int .i64 k∧wr.ownsRow wc.heap.size 5 1 v3 (4 * k) (bs (outB (ws.take k)))∧Below wc.heap.size wc wr)
     (fun _ q _=>8 - (intOf q).toNat)
    case atStart=>exact ⟨0,by omega,rfl,own_cells (World.ownsRow_nil _ _ _ _) rfl,Below.refl _ _⟩
    case round =>
     obtain ⟨k,hk,rfl,hown,hbel⟩:=hrel
     have HO:=hide hown
     have HB:=hide hbel
     clear hown hbel
     have hsz:=HB.out.size
     by_cases hlt:k < 8
     ·have hc:=(HG.out.below HB.out HG.out.lt).cell (i:=k) (by rw [H8.out]; exact hlt)
      obtain ⟨x0,x1⟩:=hu.at_ k
      have hnx:=outB_next (l:=ws) (k:=k) (by rw [H8.out]; exact hlt)
      generalize ws.getD k 0=x at *
      have HN:=hide hnx
      clear hnx
      have hfar:∀ r,Value.ownBlock u8=some r→r≠g:=fun r hr=>by
       have h1:=(HO.out.lt r hr).1
       have h2:=HG.out.lt
       omega
      have hne:Value.ownBlock u8≠some g:=fun e=>hfar g e rfl
      have hlg:g < wr.heap.size:=by have:=HG.out.lt; omega
      have k0:(0:Int)≤(k:Int):=by omega
      have k8:(k:Int) < 8:=by omega
      clear hfar hu
      go_wp2
      go_region_held3 (fun w'=>w'.cell? ⟨g,k,none⟩=some (.int .u32 x))
       (first
        | go_keep
        | (rw [hgrow.cell_far _ (by simp; omega) (Ne.symm hne)]; assumption))
       ((refine step_append_lies _ (by rfl) _ _ _ (by rfl) wc.heap.size 5 i0 _ 1 1 Tryz.underlying39 hi0 hz0 hz1 hz2 rfl (by omega) u8 (4 * k) (bs (outB (ws.take k))) (by rfl) ((HO.out.alloc _).drew)
          ⟨wr.heap.size,0,none⟩ 4 4 [.int .u8 (IntKind.u8.wrap (x / 16777216)),.int .u8 (IntKind.u8.wrap (x / 65536)),.int .u8 (IntKind.u8.wrap (x / 256)),.int .u8 (IntKind.u8.wrap x)] (by rfl) (by rfl) (World.news_of_block (cs:=#[.int .u8 (IntKind.u8.wrap (x / 16777216)),.int .u8 (IntKind.u8.wrap (x / 65536)),.int .u8 (IntKind.u8.wrap (x / 256)),.int .u8 (IntKind.u8.wrap x)]) (t:=5) (fr:=(0,0)) (heap_alloc_new wr _)) (by simp [Value.oneCell'])
          (by omega) (by simp only [maxLen]; omega) (by omega) (by simp; omega) (wr.heap.size + 1) (by simp) ?_; intro gg cap w1 hown1 hgrow hat hlt))
      go_wp2
      go_roundw
      case rel=>exact ⟨k + 1,by omega,by go_num,own_len (own_cells hown1 (by rw [HN.out,bs_append]; simp [bs,IntKind.wrap_u8])) (by omega),Below.row ((HB.out.alloc hsz _).drew) (by simp; omega) ((HO.out.alloc _).drew) hgrow⟩
      case measure=>simp [intOf]; omega
     ·obtain rfl:k=8:=by omega
      have e:outB (ws.take 8)=outB ws:=by rw [List.take_of_length_le (by rw [H8.out]; omega)]
      have hfin:Own 5 w.heap.size wr.heap.size wr _ (bs (shaL l)):=(Own.of (own_cells HO.out (by rw [e,HOUT.out])) (by rw [HOUT.out,bs_length,outB_len,H8.out])).wide BW.out.size (Nat.le_refl _) (Nat.le_refl _)
      have HF:=hide hfin
      clear hfin
      go_wp2
      go_ret
      exact ⟨_,rfl,HF.out,BW.out.trans (HB.out.mono BW.out.size)⟩
end Go.Proofs.YtgaadpkefncnmaaGreatDoor
