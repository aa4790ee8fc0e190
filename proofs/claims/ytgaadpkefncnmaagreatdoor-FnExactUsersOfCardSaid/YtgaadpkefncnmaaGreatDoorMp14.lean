/-
  Parts of the proof: BytS.
-/
import Derived.Test.YtgaadpkefncnmaaGreatDoorMp12
import Derived.Deep.RegionWith
/-
  The model's TreeBytes.
-/
namespace Go.Proofs.YtgaadpkefncnmaaGreatDoor
open Go.RowKit
set_option linter.unusedVariables false
theorem own_rd {w:World} {lo:Nat} {v:Value} {l:List Int} (h:w.ownsRow lo 5 1 v l.length (bs l)):Rd w v (bs l):=(Own.of h (by rw [bs_length])).rd
theorem own_low {w:World} {lo lo2 hi:Nat} {v:Value} {l:List Int} (h:Own 5 lo2 hi w v (bs l)) (hl:lo≤lo2):w.ownsRow lo 5 1 v l.length (bs l):=own_len (h.wide hl (Nat.le_refl _) h.2.1).1 (bs_length l)
theorem rd_one' {w:World} {n:Nat} (hn:w.heap.size=n) (x:Int) (t:TypeId):Rd (w.alloc (.cells #[.int .u8 x] t)) (.slice (some ⟨n,0,none⟩) 1 1) (bs [x]):=hn ▸ rd_one w x t
def EncAt (t:T):Prop:=∀ (deep:Nat) (hok:t.okAt deep=true) (l:List Int) (v:Value) (q:Q) (lo:Nat) (w w0:World),w.ownsRow lo 5 1 v l.length (bs l)→w0.heap.size=lo→Below lo w0 w→TIn w0 t q→l.length + t.enc.length≤1099511627776 →
 Calls Tryz.prog 194 #[v,q.val] w fun e w'=>∃ v',e=.returned v'∧w'.ownsRow lo 5 1 v' (l++t.enc).length (bs (l++t.enc))∧Holds lo w w'
set_option maxRecDepth 20000 in
set_option maxHeartbeats 3200000 in
theorem specEnc:∀ t:T,EncAt t:=by
 intro t
 induction t using T.ind with
 | h k d ns ks ih =>
   intro deep hok l v q lo w w0 hv h0 hb hq hlen
   obtain ⟨i0,hi0,hz0,hz1,hz2⟩:=info_parts u8info
   have hlo:lo≤w.heap.size:=by rw [← h0]; exact hb.size
   obtain ⟨hnd,hoks⟩:=okAt_parts hok
   obtain ⟨A,c,A',c',A'',c'',ed,hc1,hc2,en,hc1',hc2',ec,hc1'',hc2''⟩:=hq.lens
   rw [TIn] at hq
   obtain ⟨hk,hdr,hn,qs,hkk,hks⟩:=hq
   obtain ⟨K,hK⟩:∃ K,ks.length=K:=⟨_,rfl⟩
   obtain ⟨D,hD⟩:∃ D,d.length=D:=⟨_,rfl⟩
   obtain ⟨N,hN⟩:∃ N,ns.length=N:=⟨_,rfl⟩
   rw [hD] at ed hc1
   rw [hN] at en hc1'
   rw [hK] at ec hc1''
   unfold maxLen at hc2 hc2' hc2''
   obtain ⟨wa,hwa,box,ba,hz⟩:=boxed w q 47
   rw [hk] at hwa box
   rw [ec] at hwa box
   rw [ed] at hwa box
   rw [en] at hwa box
   rw [show q.val=.agg #[.int .i64 k,.slice A D c,.slice A' N c',.slice A'' K c''] by rw [← hk,← ed,← en,← ec]]
   rw [ec] at hkk
   rw [ed] at hdr
   rw [en] at hn
   have hva:wa.ownsRow lo 5 1 v l.length (bs l):=by rw [← hwa]; exact hv.alloc _
   have hba:Below lo w0 wa:=hb.trans (ba.mono hlo)
   have hla:lo≤wa.heap.size:=by omega
   have x0:=box.c0
   by_cases h2:k=2
   ·subst h2
    obtain ⟨hD0,hK6,hNK,hnm⟩:=nodeOk_dir hnd
    rw [hD] at hD0
    rw [hK] at hK6 hNK
    rw [hN] at hNK hnm
    subst hNK
    subst hD0
    have hall:T.enc (.node 2 d ns ks)=2 :: (N:Int) :: T.encs ks ns:=by rw [T.enc,if_pos rfl,hK]
    have hlt2:∀ j,(T.encs (ks.take j) ns).length≤(T.encs ks ns).length:=fun j=>T.encs_take ks j ns
    rw [hall,List.length_cons,List.length_cons] at hlen
    have HVA:=hide hva
    have HBOX:=hide box
    have HKK:=hide hkk
    have HKS:=hide hks
    have HIH:=hide ih
    have HKL:=hide hK
    have HNL:=hide hN
    have HALL:=hide hall
    have HW0:=hide h0
    have HBA:=hide hba
    have HLA:=hide hla
    have HHW:=hide (Holds.of_below ba hlo)
    have HLT2:=hide hlt2
    have HNN:=hide hn
    have HNM:=hide hnm
    have HOKS:=hide hoks
    generalize hT:(T.encs ks ns).length=TT at *
    have HTT:=hide hT
    clear box hkk hks ih hK hD hN hn ed en ec hk hc1' hc2' hall hva hdr h0 hba hb hv hlt2 hT ba hnm hoks hok hnd
    go_enter Tryz.func194,Tryz.ntmps194
    have hwN:(N:Int) % 256=N:=by omega
    go_wp2_with (first
     | (at_builtin; refine wpList_app _ rfl _ _ _ rfl lo 5 i0 _ 1 Tryz.underlying39 hi0 hz0 hz1 hz2 rfl _ _ _ rfl (HVA.out.alloc _) _ _ rfl (rd_one' hz _ _) (bs_one _) (by rw [bs_length]; simp only [maxLen,List.length_singleton]; omega) (by rw [bs_length]; simp only [List.length_singleton]; omega) (by have:=HLA.out; simp; omega) ?_; intro v2 w2 own2 gr2; have hr2:=hide ((Holds.of_below ((Below.refl _ _).alloc (Nat.le_refl _) _) HLA.out).trans (holds_row (HVA.out.alloc _) gr2 (by have:=HLA.out; simp; omega))); have bx2:=HBOX.out.holds hr2.out; have x0b:=bx2.c0; have x3b:=bx2.c3; have hl2:=hide (Nat.le_trans HLA.out hr2.out.size))
     | (at_builtin; refine wpList_app _ rfl _ _ _ rfl lo 5 i0 _ 1 Tryz.underlying39 hi0 hz0 hz1 hz2 rfl _ _ _ rfl (own2.alloc _) _ _ rfl (rd_one _ _ _) (bs_one _) (by simp only [bs_length,maxLen,List.length_singleton]; omega) (by simp only [bs_length,List.length_singleton]; omega) (by have:=hl2.out; simp; omega) ?_; intro v3 w3 own3 gr3; have hr3:=hide ((Holds.of_below ((Below.refl _ _).alloc (Nat.le_refl _) _) hl2.out).trans (holds_row (own2.alloc _) gr3 (by have:=hl2.out; simp; omega))); have bx3:=hide (bx2.holds hr3.out); clear bx2 x0b x3b))
    have HO3:Hid (w3.ownsRow lo 5 1 v3 (l++[2]++[(N:Int)]++T.encs (ks.take 0) ns).length (bs (l++[2]++[(N:Int)]++T.encs (ks.take 0) ns))):=hide (by
     rw [List.take_zero,T.encs,List.append_nil]
     exact own_len (own_cells own3 (by rw [bs_append,bs_append])) (by simp [bs]))
    have HR3:=hide (hr2.out.trans hr3.out)
    clear own3 own2 gr2 gr3 hr3 hr2 x0 hwa hwN
    go_loopw [0,5] (fun u i wr=>∃ j:Nat,j≤N∧i=.int .i64 j∧Hid (wr.ownsRow lo 5 1 u (l++[2]++[(N:Int)]++T.encs (ks.take j) ns).length (bs (l++[2]++[(N:Int)]++T.encs (ks.take j) ns)))∧Hid (Holds lo wa wr)∧C4 wr w.heap.size 47 (.int .i64 2) (.slice A 0 c) (.slice A' N c') (.slice A'' N c''))
     (fun _ i _=>N - (intOf i).toNat)
    case atStart=>exact ⟨0,Nat.zero_le _,rfl,HO3,HR3,bx3.out⟩
    case round =>
     obtain ⟨j,hj,rfl,HOW,HHO,box⟩:=hrel
     have x3:=box.c3
     by_cases hlt:j < N
     ·have x2:=box.c2
      have hjk:j < ks.length:=by rw [HKL.out]; exact hlt
      have hjn:j < ns.length:=by rw [HNL.out]; exact hlt
      obtain ⟨q',hq',hqt⟩:=HKS.out.at_ j ks[j] (List.getElem?_eq_getElem hjk)
      obtain ⟨b3,off3,hA3,hb3,rng⟩:=HKK.out.get hq'
      subst hA3
      obtain ⟨b2,off2,un,hA2,hb2,cun,run⟩:=HNN.out.get hjn
      subst hA2
      have hbw:Below lo w0 wr:=HBA.out.trans HHO.out.below
      have hlw:lo≤wr.heap.size:=Nat.le_trans HLA.out HHO.out.size
      have n0:=(hbw.cell (p:=⟨b2,off2 + j,none⟩) (by rw [HW0.out] at hb2; exact hb2)).trans cun
      have runw:Rd wr un (bs (ns.getD j [])):=run.below (by rw [HW0.out]; exact hbw)
      have rng2:=rangeAt_below rng (by rw [HW0.out]; exact hbw) hb3
      have g0:wr.cell? ⟨b3,off3 + j * 4,none⟩=some (.int .i64 q'.k):=rng2 0 _ rfl
      have g1:=rng2 1 _ rfl
      have g2:=rng2 2 _ rfl
      have g3:=rng2 3 _ rfl
      have hnm8:=HNM.out j (by rw [← HNL.out]; exact hjn)
      have hnext:=T.encs_next hjk ns
      have hl2:=HLT2.out (j + 1)
      rw [hnext,List.length_append,List.length_append] at hl2
      generalize ns.getD j []=nm at *
      have hpt:=specPutText (l++[2]++[(N:Int)]++T.encs (ks.take j) ns) u0 nm un wr (own_rd HOW.out) runw (by simp only [List.length_append,List.length_singleton]; omega)
      rw [putText_txt (by omega)] at hpt
      have hpt2:Calls Tryz.prog 186 #[u0,un] wr.drew fun e w'=>∃ v',e=.returned v'∧w'.ownsRow lo 5 1 v' (l++[2]++[(N:Int)]++T.encs (ks.take j) ns++txt nm).length (bs (l++[2]++[(N:Int)]++T.encs (ks.take j) ns++txt nm))∧Below wr.heap.size wr w':=by
       have:=specPutText (l++[2]++[(N:Int)]++T.encs (ks.take j) ns) u0 nm un wr.drew (own_rd HOW.out) runw (by simp only [List.length_append,List.length_singleton]; omega)
       rw [putText_txt (by omega)] at this
       exact this.mono fun e w' ⟨v',he,ho,hb⟩=>⟨v',he,own_low ho hlw,(Below.refl _ _).drew.trans hb⟩
      have hih:=fun (v3:Value) (w3:World) (o3:w3.ownsRow lo 5 1 v3 (l++[2]++[(N:Int)]++T.encs (ks.take j) ns++txt nm).length (bs (l++[2]++[(N:Int)]++T.encs (ks.take j) ns++txt nm))) (b3:Below wr.heap.size wr w3) =>
       HIH.out ks[j] (List.getElem_mem hjk) (deep + 1) (HOKS.out _ (List.getElem_mem hjk)) _ v3 q' lo w3 w0 o3 HW0.out (hbw.trans (b3.mono hlw)) hqt (by simp only [List.length_append,List.length_singleton]; omega)
      have hst:=fun (w3:World) (b:Below wr.heap.size wr w3)=>(⟨(box.step b).c3,rangeAt_below rng2 b (Nat.lt_of_lt_of_le (by rw [HW0.out] at hb3; exact hb3) hlw)⟩:w3.cell? ⟨w.heap.size,3,none⟩=_∧w3.rangeAt b3 (off3 + j * 4) _)
      have HPT:=hide hpt2
      have HIJ:=hide hih
      have HST:=hide hst
      have HNX:=hide hnext
      have HLW:=hide hlw
      have HB:=hide box
      have k1:(j:Int) < (N:Int):=by omega
      have k0:(0:Int)≤(j:Int):=by omega
      have k2:(j:Int).toNat=j:=by omega
      clear hpt hpt2 hih hst rng rng2 hq' hqt hbw hnext hb3 hb2 cun run runw box hl2 hnm8
      go_upto_block 1 with (fail)
      go_cut [0] (fun u wx=>Hid (wx.ownsRow lo 5 1 u (l++[2]++[(N:Int)]++T.encs (ks.take (j + 1)) ns).length (bs (l++[2]++[(N:Int)]++T.encs (ks.take (j + 1)) ns)))∧Hid (Holds lo wr wx))
      case first =>
       clear HHO HB
       apply wp_block
       go_region_with (first
        | (go_at_call 186; refine HPT.out.mono ?_; rintro e w3 ⟨v3,rfl,o3,bb3⟩; have st:=HST.out w3 bb3; have z3:=st.1; have h0:w3.cell? ⟨b3,off3 + j * 4,none⟩=some (.int .i64 q'.k):=st.2 0 _ rfl; have h1:=st.2 1 _ rfl; have h2:=st.2 2 _ rfl; have h3:=st.2 3 _ rfl)
        | (go_at_call 194; refine (HIJ.out v3 w3 o3 bb3).mono ?_; rintro e w4 ⟨v4,rfl,o4,hh4⟩))
       all_goals
        have ho4:Hid (w4.ownsRow lo 5 1 v4 (l++[2]++[(N:Int)]++T.encs (ks.take (j + 1)) ns).length (bs (l++[2]++[(N:Int)]++T.encs (ks.take (j + 1)) ns))):=hide (by
         rw [HNX.out,show l++[2]++[(N:Int)]++(T.encs (ks.take j) ns++txt nm++(ks[j]).enc)=l++[2]++[(N:Int)]++T.encs (ks.take j) ns++txt nm++(ks[j]).enc by simp only [List.append_assoc]]
         exact o4)
        have hho4:=hide ((Holds.of_below bb3 HLW.out).trans hh4)
        clear o4 hh4 o3 bb3 st z3 h0 h1 h2 h3
        go_wp2
        go_meet
        exact ⟨ho4,hho4⟩
      case rest =>
       obtain ⟨HOW2,HHO2⟩:=hcut
       clear HPT HIJ HST HNX x2 n0 g0 g1 g2 g3 x3
       go_wp2
       go_roundw
       case rel=>exact ⟨j + 1,by omega,by go_num,HOW2,hide (HHO.out.trans HHO2.out),HB.out.holds HHO2.out⟩
       case measure=>simp [intOf]; omega
     ·obtain rfl:j=N:=by omega
      have e2:ks.take j=ks:=List.take_of_length_le (by rw [HKL.out]; omega)
      rw [e2] at HOW
      have HF:Hid (wr.ownsRow lo 5 1 u0 (l++T.enc (.node 2 d ns ks)).length (bs (l++T.enc (.node 2 d ns ks)))):=hide (by
       rw [HALL.out,show l++2 :: (j:Int) :: T.encs ks ns=l++[2]++[(j:Int)]++T.encs ks ns by simp]
       exact HOW.out)
      clear box e2 HOW
      go_wp2
      go_ret
      exact ⟨_,rfl,HF.out,HHW.out.trans HHO.out⟩
   ·obtain ⟨k0,k3,hD4,hN0,hK0⟩:=nodeOk_file h2 hnd
    have hall:T.enc (.node k d ns ks)=k :: txt d:=by rw [T.enc,if_neg h2]
    rw [hall,List.length_cons] at hlen
    have hkb:(k != 2)=true:=by simpa using h2
    have hkw:k % 256=k:=by omega
    have x1:=box.c1
    have htl:d.length≤(txt d).length:=by rw [txt,List.length_append]; omega
    have HVA:=hide hva
    have HBOX:=hide box
    have HALL:=hide hall
    have HLA:=hide hla
    have HHW:=hide (Holds.of_below ba hlo)
    have hdw:=fun (W:World) (hW:Below lo wa W)=>hdr.below (w':=W) (by rw [h0]; exact hba.trans hW)
    have HDW:=hide hdw
    rw [hD] at hD4 htl
    have HDL:=hide hD
    clear box hkk hks ih hK hD hN hn ed en ec hk hc1' hc2' hall hva hdr h0 hba hb hv ba hoks hok hnd hdw
    go_enter Tryz.func194,Tryz.ntmps194
    go_wp2_with (at_builtin; refine wpList_app _ rfl _ _ _ rfl lo 5 i0 _ 1 Tryz.underlying39 hi0 hz0 hz1 hz2 rfl _ _ _ rfl (HVA.out.alloc _) _ _ rfl (rd_one' hz _ _) (bs_one _) (by rw [bs_length]; simp only [maxLen,List.length_singleton]; omega) (by rw [bs_length]; simp only [List.length_singleton]; omega) (by have:=HLA.out; simp; omega) ?_; intro v2 w2 own2 gr2; have hr2:=hide ((Holds.of_below ((Below.refl _ _).alloc (Nat.le_refl _) _) HLA.out).trans (holds_row (HVA.out.alloc _) gr2 (by have:=HLA.out; simp; omega))); have bx2:=HBOX.out.holds hr2.out; have x0b:=bx2.c0; have x1b:=bx2.c1; have hl2:=hide (Nat.le_trans HLA.out hr2.out.size))
    have hO2:w2.ownsRow lo 5 1 v2 (l++[k]).length (bs (l++[k])):=own_len (own_cells own2 (bs_append _ _).symm) (by simp [bs])
    have hd2:Rd w2 (.slice A D c) (bs d):=HDW.out w2 hr2.out.below
    have hpt:=specPutText (l++[k]) v2 d _ w2 (own_rd hO2) hd2 (by simp only [List.length_append,List.length_singleton]; omega)
    rw [putText_txt (by rw [HDL.out]; exact hD4)] at hpt
    refine hpt.mono ?_
    rintro e w3 ⟨v3,rfl,o3,b3⟩
    have hf:Hid (w3.ownsRow lo 5 1 v3 (l++T.enc (.node k d ns ks)).length (bs (l++T.enc (.node k d ns ks)))):=hide (by
     rw [HALL.out,show l++k :: txt d=l++[k]++txt d by simp]
     exact own_low o3 hl2.out)
    have hh:=hide (HHW.out.trans (hr2.out.trans (Holds.of_below b3 hl2.out)))
    clear hpt own2 gr2 o3 b3 hO2 hd2
    go_wp2_with fail
    go_ret
    exact ⟨_,rfl,hf.out,hh.out⟩
end Go.Proofs.YtgaadpkefncnmaaGreatDoor
