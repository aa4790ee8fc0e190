/-
  Parts of the proof: AscM.
-/
import Derived.Test.YtgaadpkefncnmaaGreatDoorMp0
import Derived.Test.YtgaadpkefncnmaaGreatDoorMp7
/-
  ascend over texts, with NameOk.
-/
namespace Go.Proofs.YtgaadpkefncnmaaGreatDoor
open Go.RowKit
set_option linter.unusedVariables false
set_option maxRecDepth 20000 in
set_option maxHeartbeats 1600000 in
theorem ascendN (ns:List (List Int)) (hB:BytN ns) (v:Value) (w:World) (hv:RdN w v ns) (hlen:∀ l∈ns,l.length≤1048576) :
  Calls Tryz.prog 168 #[v,.func (.func 166) #[] #[],.func (.func 131) #[] #[]] w fun e w'=>e=.returned (.bool (ascP nameOk ns))∧Below w.heap.size w w':=by
 obtain ⟨vs,hv,hvl,hvs⟩:=hv
 obtain ⟨A,c,rfl,hc1,hc2,hrd⟩:=hv
 obtain ⟨n,hn⟩:∃ n,ns.length=n:=⟨_,rfl⟩
 rw [hn] at hvl
 rw [hvl] at hc1 hrd ⊢
 unfold maxLen at hc2
 obtain ⟨R,hR⟩:∃ R,ascP nameOk ns=R:=⟨_,rfl⟩
 rw [hR]
 have HN:=hide hn
 have HVL:=hide hvl
 have HRD:=hide hrd
 have HVS:=hide hvs
 have HR:Hid (ascPF nameOk ns (n - 0) 0=R):=by rw [← hR,ascP,hn]; exact hide rfl
 have HBN:=hide hB
 have HLEN:=hide hlen
 clear hlen hn hvl hrd hvs hR hB
 go_enter Tryz.func168,Tryz.ntmps168
 go_wp2
 go_loopw [11] (fun i wr=>∃ k:Nat,k≤n∧i=.int .i64 k∧Hid (ascPF nameOk ns (n - k) k=R)∧Below w.heap.size w wr) (fun i _=>n - (intOf i).toNat)
 case atStart=>exact ⟨0,Nat.zero_le _,rfl,HR,Below.refl _ _⟩
 case round =>
  obtain ⟨k,hk,rfl,hx,hbel⟩:=hrel
  have HB:=hide hbel
  by_cases hlt:k < n
  ·have hkl:k < ns.length:=by rw [HN.out]; exact hlt
   obtain ⟨b,off,rfl,hblt,hcell⟩:=HRD.out (by omega)
   obtain ⟨x,hxe⟩:∃ x,vs[k]? = some x:=⟨_,List.getElem?_eq_getElem (by rw [HVL.out]; exact hlt)⟩
   have q1:=(hbel.cell (p:=⟨b,off + k,none⟩) hblt).trans (hcell k x hxe)
   have r1:=(HVS.out k x hxe).below hbel
   have hmore:=ascPF_more (p:=nameOk) hkl
   rw [HN.out,hx.out] at hmore
   have hBk:Byt (ns.getD k []):=by
    have:ns.getD k []∈ns:=by simp [List.getD,List.getElem?_eq_getElem hkl]
    exact HBN.out _ this
   have hlk:(ns.getD k []).length≤1048576:=by
    have:ns.getD k []∈ns:=by simp [List.getD,List.getElem?_eq_getElem hkl]
    exact HLEN.out _ this
   have e1:=fun W (hb:Rd W x (bs (ns.getD k [])))=>implNameOk (ns.getD k []) hBk x W hb (by omega)
   clear hlk
   have k1:(k:Int) < (n:Int):=by omega
   have hnm:nameP nameOk ns k=(nameOk (ns.getD k []) && (decide (k=0) || lessL (ns.getD (k - 1) []) (ns.getD k []))):=rfl
   rw [hnm] at hmore
   cases he:nameOk (ns.getD k []) with
   | false =>
     have a1:=e1 wr r1
     rw [he] at a1 hmore
     rw [Bool.false_and,Bool.false_and] at hmore
     have HM:=hide hmore
     clear hmore hnm he e1 r1 hcell hxe hbel
     go_wp2_with fail
     refine a1.mono ?_
     rintro e w2 ⟨rfl,b2⟩
     go_wp2_with fail
     go_ret
     exact ⟨ret_bool HM.out.symm,HB.out.trans (b2.mono HB.out.size)⟩
   | true =>
     have a1:=e1 wr r1
     rw [he] at a1 hmore
     rw [Bool.true_and] at hmore
     by_cases hk0:k=0
     ·subst hk0
      have q1' : wr.cell? ⟨b,off,none⟩=some x:=by simpa using q1
      have hm2:ascPF nameOk ns (n - (0 + 1)) (0 + 1)=R:=by simpa using hmore.symm
      have HM:=hide hm2
      clear hmore hm2 hnm he e1 r1 hcell hxe hbel q1
      go_wp2_with fail
      refine a1.mono ?_
      rintro e w2 ⟨rfl,b2⟩
      have B2:=hide (HB.out.trans (b2.mono HB.out.size))
      clear b2
      go_wp2_with fail
      go_roundw
      case rel=>exact ⟨0 + 1,by omega,by go_num,HM,B2.out⟩
      case measure=>simp [intOf]; omega
     ·rw [decide_eq_false hk0,Bool.false_or] at hmore
      obtain ⟨y,hye⟩:∃ y,vs[k - 1]? = some y:=⟨_,List.getElem?_eq_getElem (by rw [HVL.out]; omega)⟩
      have q2:=(hbel.cell (p:=⟨b,off + (k - 1),none⟩) hblt).trans (hcell (k - 1) y hye)
      have r2:=(HVS.out (k - 1) y hye).below hbel
      have hBj:Byt (ns.getD (k - 1) []):=by
       have:ns.getD (k - 1) []∈ns:=by simp [List.getD,List.getElem?_eq_getElem (show k - 1 < ns.length by omega)]
       exact HBN.out _ this
      have a2:=fun W (hb:Below wr.heap.size wr W)=>compare (ns.getD (k - 1) []) (ns.getD k []) y x W (r2.below hb) (r1.below hb)
      have Q2:=hide (fun W (hb:Below wr.heap.size wr W)=>(hb.cell (p:=⟨b,off + (k - 1),none⟩) (Nat.lt_of_lt_of_le hblt hbel.size)).trans q2)
      have hcmp:=cmpI_less hBj hBk
      obtain ⟨z,hz⟩:∃ z,cmpI (ns.getD (k - 1) []) (ns.getD k [])=z:=⟨_,rfl⟩
      rw [hz] at hcmp
      have A2:=hide (fun W hb=>hz ▸ a2 W hb)
      have k2:((k:Int) - 1) < (n:Int):=by omega
      have k3:(1:Int)≤(k:Int):=by omega
      have k4:((k:Int) - 1).toNat=k - 1:=by omega
      have k5:0 < k:=by omega
      cases hls:lessL (ns.getD (k - 1) []) (ns.getD k []) with
      | true =>
        rw [hls] at hmore hcmp
        have hz0:z < 0:=by simpa using hcmp
        have hm2:ascPF nameOk ns (n - (k + 1)) (k + 1)=R:=by simpa using hmore.symm
        have HM:=hide hm2
        clear hmore hm2 hnm he e1 r1 r2 hcell hxe hye hz hcmp hls hBj hBk q2 a2 hbel
        go_wp2_with fail
        refine a1.mono ?_
        rintro e w2 ⟨rfl,b2⟩
        have q2:=Q2.out w2 b2
        have B2:=hide (HB.out.trans (b2.mono HB.out.size))
        have a3:=A2.out w2 b2
        clear b2
        go_wp2_with fail
        refine a3.mono ?_
        rintro e w' ⟨rfl,rfl⟩
        go_wp2_with fail
        go_roundw
        case rel=>exact ⟨k + 1,by omega,by go_num,HM,B2.out⟩
        case measure=>simp [intOf]; omega
      | false =>
        rw [hls] at hmore hcmp
        have hz0:¬ z < 0:=by simpa using hcmp
        rw [Bool.false_and] at hmore
        have HM:=hide hmore
        clear hmore hnm he e1 r1 r2 hcell hxe hye hz hcmp hls hBj hBk q2 a2 hbel
        go_wp2_with fail
        refine a1.mono ?_
        rintro e w2 ⟨rfl,b2⟩
        have q2:=Q2.out w2 b2
        have B2:=hide (HB.out.trans (b2.mono HB.out.size))
        have a3:=A2.out w2 b2
        clear b2
        go_wp2_with fail
        refine a3.mono ?_
        rintro e w' ⟨rfl,rfl⟩
        go_wp2_with fail
        go_ret
        exact ⟨ret_bool HM.out.symm,B2.out⟩
  ·obtain rfl:k=n:=by omega
   have hfin:true=R:=by rw [← hx.out,Nat.sub_self,ascPF]
   have HF:=hide hfin
   clear hfin hbel
   go_wp2
   go_ret
   exact ⟨ret_bool HF.out,HB.out⟩
end Go.Proofs.YtgaadpkefncnmaaGreatDoor
