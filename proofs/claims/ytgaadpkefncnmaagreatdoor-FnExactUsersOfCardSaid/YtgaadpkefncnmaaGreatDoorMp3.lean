/-
  Parts of the proof: B32I.
-/
import Derived.Test.YtgaadpkefncnmaaGreatDoorMp0
/-
  Base32: the program's characters.
-/
namespace Go.Proofs.YtgaadpkefncnmaaGreatDoor
open Go.RowKit
set_option maxRecDepth 20000 in
set_option maxHeartbeats 3000000 in
theorem implBaseIn (l:List Int) (hB:Byt l) (v:Value) (w:World) (hv:Rd w v (bs l)) (hl:l.length≤64) :
  Calls Tryz.prog 223 #[v] w fun e w'=>∃ v',e=.returned v'∧Own 5 w.heap.size w'.heap.size w' v' (bs (b32 l))∧Below w.heap.size w w':=by
 obtain ⟨i0,hi0,hz0,hz1,hz2⟩:=info_parts u8info
 obtain ⟨A,c,hV,hc1,hc2,hrd⟩:=id hv
 rw [bs_length] at *
 unfold maxLen at hc2
 subst hV
 clear hv
 go_enter Tryz.func223,Tryz.ntmps223
 go_wp2
 go_loopw [3,4,5,13] (fun v r q i wr=>∃ (k h p:Nat) (xs:List Int),k≤l.length∧h≤4∧p + h=8 * k∧i=.int .i64 k∧q=.int .i64 h∧r=.int .i64 (part l p h)∧wr.ownsRow w.heap.size 5 1 v xs.length (bs xs)∧Hid (xs++(grp l p).map ltr=b32 l)∧Below w.heap.size w wr)
  (fun _ _ _ i _=>l.length - (intOf i).toNat)
 case atStart=>exact ⟨0,0,0,[],by omega,by omega,by omega,rfl,rfl,rfl,World.ownsRow_nil _ _ _ _,hide (List.nil_append _),Below.refl _ _⟩
 case round =>
  obtain ⟨k,h,p,xs,hk,hh,hph,rfl,rfl,rfl,hown,hx,hbel⟩:=hrel
  have hxl:xs.length≤8 * l.length + 5:=by
   have:=congrArg List.length hx.out
   rw [List.length_append,b32_len] at this
   omega
  have HO:=hide hown
  have HB:=hide hbel
  clear hown hbel
  obtain ⟨r0,r1⟩:=part_pos l p h
  have hsp:=part_split l p h 8
  rw [hph,part_byte l hB k] at hsp
  by_cases hlt:k < l.length
  ·obtain ⟨b,off,rfl,hblt,hcell⟩:=hrd (by omega)
   have hc:=(HB.out.cell (p:=⟨b,off + k,none⟩) hblt).trans (hcell _ _ (bs_get hlt))
   obtain ⟨y0,y1⟩:=hB.at_ k
   generalize hy:l.getD k 0=y at *
   have HSP:=hide hsp
   clear hy hcell hrd hsp
   generalize hr:part l p h=r at *
   have r16:r < 16:=by
    rcases (by omega:h=0∨h=1∨h=2∨h=3∨h=4) with rfl | rfl | rfl | rfl | rfl <;> omega
   have hor:bits .or .i64 (r * 256) y=r * 256 + y:=or_below 8 y0 (by omega) r0 (by omega)
   clear r1 hr
   go_wp2
   go_loopw [3,4,5] (fun v r q wr=>∃ (hd p' : Nat) (ys:List Int),hd≤12∧p' + hd=8 * (k + 1)∧q=.int .i64 hd∧r=.int .i64 (part l p' hd)∧wr.ownsRow w.heap.size 5 1 v ys.length (bs ys)∧Hid (ys++(grp l p').map ltr=b32 l)∧Below w.heap.size w wr)
    (fun _ _ q _=>(intOf q).toNat)
   case atStart=>exact ⟨h + 8,p,xs,by omega,by omega,by go_num,by rw [HSP.out]; go_num,HO.out,hx,HB.out⟩
   case round =>
    obtain ⟨hd,p',ys,hh2,hph2,rfl,rfl,hown2,hx2,hbel2⟩:=hrel
    have hyl:ys.length≤8 * l.length + 5:=by
     have:=congrArg List.length hx2.out
     rw [List.length_append,b32_len] at this
     omega
    have HO2:=hide hown2
    have HB2:=hide hbel2
    clear hown2 hbel2
    rcases (by omega:hd < 5∨hd=5∨hd=6∨hd=7∨hd=8∨hd=9∨hd=10∨hd=11∨hd=12) with h5 | rfl | rfl | rfl | rfl | rfl | rfl | rfl | rfl
    ·go_wp2
     go_roundw
     case rel=>exact ⟨k + 1,hd,p',ys,by omega,by omega,by omega,by go_num,rfl,rfl,HO2.out,hx2,HB2.out⟩
     case measure=>simp [intOf]; omega
    ·obtain ⟨d0,d1⟩:=part_pos l p' (5 + 0)
     obtain ⟨dn,hdn⟩:=Int.eq_ofNat_of_zero_le d0
     rw [hdn] at d1
     have hdn2:part l p' (5)=(dn:Int):=hdn
     rw [hdn2]
     have l0:dn < 32:=by omega
     have hlt':=ltr_at (dn) l0
     have hand:bits .and .i64 (dn:Int) 0=0:=(and_low 0 (by omega) (by omega) (by omega)).trans (by simp)
     have HD:=hide hdn2
     clear hdn hdn2
     go_wp2_with (at_builtin; refine wpList_app _ rfl (.tmp 28) (.tmp 33) _ rfl w.heap.size 5 i0 _ 1 Tryz.underlying39 hi0 hz0 hz1 hz2 rfl _ _ _ rfl (HO2.out.alloc _) _ _ rfl (rd_one _ _ _) (bs_one _) (by rw [bs_length]; simp only [maxLen,List.length_singleton]; omega) (by rw [bs_length]; simp only [List.length_singleton]; omega) (by have:=HB2.out.size; simp; omega) ?_; intro v3 w3 own3 gr3)
     go_roundw
     case rel=>exact ⟨0,p' + 5,ys++[ltr (dn:Nat)],by omega,by omega,rfl,rfl,own_len (own_cells own3 (bs_append _ _).symm) (by simp [bs]),hide (by
       have:=hx2.out
       rw [grp_more (by omega),HD.out] at this
       rw [← this]
       simp),Below.row (HB2.out.alloc HB2.out.size _) (by have:=HB2.out.size; simp; omega) (HO2.out.alloc _) gr3⟩
     case measure=>simp [intOf]
    ·have hd:=part_top l p' 5 1
     obtain ⟨d0,d1⟩:=part_pos l p' (5 + 1)
     obtain ⟨dn,hdn⟩:=Int.eq_ofNat_of_zero_le d0
     rw [hdn] at hd d1
     have hdn2:part l p' (6)=(dn:Int):=hdn
     rw [hdn2]
     have l0:dn / 2 < 32:=by omega
     have hlt':=ltr_at (dn / 2) l0
     have hand:bits .and .i64 (dn:Int) 1=(dn:Int) % 2:=and_low 1 (by omega) (by omega) (by omega)
     have HD:=hide hd
     clear hd hdn hdn2
     go_wp2_with (at_builtin; refine wpList_app _ rfl (.tmp 28) (.tmp 33) _ rfl w.heap.size 5 i0 _ 1 Tryz.underlying39 hi0 hz0 hz1 hz2 rfl _ _ _ rfl (HO2.out.alloc _) _ _ rfl (rd_one _ _ _) (bs_one _) (by rw [bs_length]; simp only [maxLen,List.length_singleton]; omega) (by rw [bs_length]; simp only [List.length_singleton]; omega) (by have:=HB2.out.size; simp; omega) ?_; intro v3 w3 own3 gr3)
     go_roundw
     case rel=>exact ⟨1,p' + 5,ys++[ltr (dn / 2:Nat)],by omega,by omega,rfl,by rw [← HD.out.2]; go_num,own_len (own_cells own3 (bs_append _ _).symm) (by simp [bs]),hide (by
       have:=hx2.out
       rw [grp_more (by omega),← HD.out.1] at this
       rw [← this]
       simp),Below.row (HB2.out.alloc HB2.out.size _) (by have:=HB2.out.size; simp; omega) (HO2.out.alloc _) gr3⟩
     case measure=>simp [intOf]
    ·have hd:=part_top l p' 5 2
     obtain ⟨d0,d1⟩:=part_pos l p' (5 + 2)
     obtain ⟨dn,hdn⟩:=Int.eq_ofNat_of_zero_le d0
     rw [hdn] at hd d1
     have hdn2:part l p' (7)=(dn:Int):=hdn
     rw [hdn2]
     have l0:dn / 4 < 32:=by omega
     have hlt':=ltr_at (dn / 4) l0
     have hand:bits .and .i64 (dn:Int) 3=(dn:Int) % 4:=and_low 2 (by omega) (by omega) (by omega)
     have HD:=hide hd
     clear hd hdn hdn2
     go_wp2_with (at_builtin; refine wpList_app _ rfl (.tmp 28) (.tmp 33) _ rfl w.heap.size 5 i0 _ 1 Tryz.underlying39 hi0 hz0 hz1 hz2 rfl _ _ _ rfl (HO2.out.alloc _) _ _ rfl (rd_one _ _ _) (bs_one _) (by rw [bs_length]; simp only [maxLen,List.length_singleton]; omega) (by rw [bs_length]; simp only [List.length_singleton]; omega) (by have:=HB2.out.size; simp; omega) ?_; intro v3 w3 own3 gr3)
     go_roundw
     case rel=>exact ⟨2,p' + 5,ys++[ltr (dn / 4:Nat)],by omega,by omega,rfl,by rw [← HD.out.2]; go_num,own_len (own_cells own3 (bs_append _ _).symm) (by simp [bs]),hide (by
       have:=hx2.out
       rw [grp_more (by omega),← HD.out.1] at this
       rw [← this]
       simp),Below.row (HB2.out.alloc HB2.out.size _) (by have:=HB2.out.size; simp; omega) (HO2.out.alloc _) gr3⟩
     case measure=>simp [intOf]
    ·have hd:=part_top l p' 5 3
     obtain ⟨d0,d1⟩:=part_pos l p' (5 + 3)
     obtain ⟨dn,hdn⟩:=Int.eq_ofNat_of_zero_le d0
     rw [hdn] at hd d1
     have hdn2:part l p' (8)=(dn:Int):=hdn
     rw [hdn2]
     have l0:dn / 8 < 32:=by omega
     have hlt':=ltr_at (dn / 8) l0
     have hand:bits .and .i64 (dn:Int) 7=(dn:Int) % 8:=and_low 3 (by omega) (by omega) (by omega)
     have HD:=hide hd
     clear hd hdn hdn2
     go_wp2_with (at_builtin; refine wpList_app _ rfl (.tmp 28) (.tmp 33) _ rfl w.heap.size 5 i0 _ 1 Tryz.underlying39 hi0 hz0 hz1 hz2 rfl _ _ _ rfl (HO2.out.alloc _) _ _ rfl (rd_one _ _ _) (bs_one _) (by rw [bs_length]; simp only [maxLen,List.length_singleton]; omega) (by rw [bs_length]; simp only [List.length_singleton]; omega) (by have:=HB2.out.size; simp; omega) ?_; intro v3 w3 own3 gr3)
     go_roundw
     case rel=>exact ⟨3,p' + 5,ys++[ltr (dn / 8:Nat)],by omega,by omega,rfl,by rw [← HD.out.2]; go_num,own_len (own_cells own3 (bs_append _ _).symm) (by simp [bs]),hide (by
       have:=hx2.out
       rw [grp_more (by omega),← HD.out.1] at this
       rw [← this]
       simp),Below.row (HB2.out.alloc HB2.out.size _) (by have:=HB2.out.size; simp; omega) (HO2.out.alloc _) gr3⟩
     case measure=>simp [intOf]
    ·have hd:=part_top l p' 5 4
     obtain ⟨d0,d1⟩:=part_pos l p' (5 + 4)
     obtain ⟨dn,hdn⟩:=Int.eq_ofNat_of_zero_le d0
     rw [hdn] at hd d1
     have hdn2:part l p' (9)=(dn:Int):=hdn
     rw [hdn2]
     have l0:dn / 16 < 32:=by omega
     have hlt':=ltr_at (dn / 16) l0
     have hand:bits .and .i64 (dn:Int) 15=(dn:Int) % 16:=and_low 4 (by omega) (by omega) (by omega)
     have HD:=hide hd
     clear hd hdn hdn2
     go_wp2_with (at_builtin; refine wpList_app _ rfl (.tmp 28) (.tmp 33) _ rfl w.heap.size 5 i0 _ 1 Tryz.underlying39 hi0 hz0 hz1 hz2 rfl _ _ _ rfl (HO2.out.alloc _) _ _ rfl (rd_one _ _ _) (bs_one _) (by rw [bs_length]; simp only [maxLen,List.length_singleton]; omega) (by rw [bs_length]; simp only [List.length_singleton]; omega) (by have:=HB2.out.size; simp; omega) ?_; intro v3 w3 own3 gr3)
     go_roundw
     case rel=>exact ⟨4,p' + 5,ys++[ltr (dn / 16:Nat)],by omega,by omega,rfl,by rw [← HD.out.2]; go_num,own_len (own_cells own3 (bs_append _ _).symm) (by simp [bs]),hide (by
       have:=hx2.out
       rw [grp_more (by omega),← HD.out.1] at this
       rw [← this]
       simp),Below.row (HB2.out.alloc HB2.out.size _) (by have:=HB2.out.size; simp; omega) (HO2.out.alloc _) gr3⟩
     case measure=>simp [intOf]
    ·have hd:=part_top l p' 5 5
     obtain ⟨d0,d1⟩:=part_pos l p' (5 + 5)
     obtain ⟨dn,hdn⟩:=Int.eq_ofNat_of_zero_le d0
     rw [hdn] at hd d1
     have hdn2:part l p' (10)=(dn:Int):=hdn
     rw [hdn2]
     have l0:dn / 32 < 32:=by omega
     have hlt':=ltr_at (dn / 32) l0
     have hand:bits .and .i64 (dn:Int) 31=(dn:Int) % 32:=and_low 5 (by omega) (by omega) (by omega)
     have HD:=hide hd
     clear hd hdn hdn2
     go_wp2_with (at_builtin; refine wpList_app _ rfl (.tmp 28) (.tmp 33) _ rfl w.heap.size 5 i0 _ 1 Tryz.underlying39 hi0 hz0 hz1 hz2 rfl _ _ _ rfl (HO2.out.alloc _) _ _ rfl (rd_one _ _ _) (bs_one _) (by rw [bs_length]; simp only [maxLen,List.length_singleton]; omega) (by rw [bs_length]; simp only [List.length_singleton]; omega) (by have:=HB2.out.size; simp; omega) ?_; intro v3 w3 own3 gr3)
     go_roundw
     case rel=>exact ⟨5,p' + 5,ys++[ltr (dn / 32:Nat)],by omega,by omega,rfl,by rw [← HD.out.2]; go_num,own_len (own_cells own3 (bs_append _ _).symm) (by simp [bs]),hide (by
       have:=hx2.out
       rw [grp_more (by omega),← HD.out.1] at this
       rw [← this]
       simp),Below.row (HB2.out.alloc HB2.out.size _) (by have:=HB2.out.size; simp; omega) (HO2.out.alloc _) gr3⟩
     case measure=>simp [intOf]
    ·have hd:=part_top l p' 5 6
     obtain ⟨d0,d1⟩:=part_pos l p' (5 + 6)
     obtain ⟨dn,hdn⟩:=Int.eq_ofNat_of_zero_le d0
     rw [hdn] at hd d1
     have hdn2:part l p' (11)=(dn:Int):=hdn
     rw [hdn2]
     have l0:dn / 64 < 32:=by omega
     have hlt':=ltr_at (dn / 64) l0
     have hand:bits .and .i64 (dn:Int) 63=(dn:Int) % 64:=and_low 6 (by omega) (by omega) (by omega)
     have HD:=hide hd
     clear hd hdn hdn2
     go_wp2_with (at_builtin; refine wpList_app _ rfl (.tmp 28) (.tmp 33) _ rfl w.heap.size 5 i0 _ 1 Tryz.underlying39 hi0 hz0 hz1 hz2 rfl _ _ _ rfl (HO2.out.alloc _) _ _ rfl (rd_one _ _ _) (bs_one _) (by rw [bs_length]; simp only [maxLen,List.length_singleton]; omega) (by rw [bs_length]; simp only [List.length_singleton]; omega) (by have:=HB2.out.size; simp; omega) ?_; intro v3 w3 own3 gr3)
     go_roundw
     case rel=>exact ⟨6,p' + 5,ys++[ltr (dn / 64:Nat)],by omega,by omega,rfl,by rw [← HD.out.2]; go_num,own_len (own_cells own3 (bs_append _ _).symm) (by simp [bs]),hide (by
       have:=hx2.out
       rw [grp_more (by omega),← HD.out.1] at this
       rw [← this]
       simp),Below.row (HB2.out.alloc HB2.out.size _) (by have:=HB2.out.size; simp; omega) (HO2.out.alloc _) gr3⟩
     case measure=>simp [intOf]
    ·have hd:=part_top l p' 5 7
     obtain ⟨d0,d1⟩:=part_pos l p' (5 + 7)
     obtain ⟨dn,hdn⟩:=Int.eq_ofNat_of_zero_le d0
     rw [hdn] at hd d1
     have hdn2:part l p' (12)=(dn:Int):=hdn
     rw [hdn2]
     have l0:dn / 128 < 32:=by omega
     have hlt':=ltr_at (dn / 128) l0
     have hand:bits .and .i64 (dn:Int) 127=(dn:Int) % 128:=and_low 7 (by omega) (by omega) (by omega)
     have HD:=hide hd
     clear hd hdn hdn2
     go_wp2_with (at_builtin; refine wpList_app _ rfl (.tmp 28) (.tmp 33) _ rfl w.heap.size 5 i0 _ 1 Tryz.underlying39 hi0 hz0 hz1 hz2 rfl _ _ _ rfl (HO2.out.alloc _) _ _ rfl (rd_one _ _ _) (bs_one _) (by rw [bs_length]; simp only [maxLen,List.length_singleton]; omega) (by rw [bs_length]; simp only [List.length_singleton]; omega) (by have:=HB2.out.size; simp; omega) ?_; intro v3 w3 own3 gr3)
     go_roundw
     case rel=>exact ⟨7,p' + 5,ys++[ltr (dn / 128:Nat)],by omega,by omega,rfl,by rw [← HD.out.2]; go_num,own_len (own_cells own3 (bs_append _ _).symm) (by simp [bs]),hide (by
       have:=hx2.out
       rw [grp_more (by omega),← HD.out.1] at this
       rw [← this]
       simp),Below.row (HB2.out.alloc HB2.out.size _) (by have:=HB2.out.size; simp; omega) (HO2.out.alloc _) gr3⟩
     case measure=>simp [intOf]
  ·obtain rfl:k=l.length:=by omega
   clear hsp hrd r0 r1
   rcases (by omega:h=0∨h=1∨h=2∨h=3∨h=4) with rfl | rfl | rfl | rfl | rfl
   ·have hfin:xs=b32 l:=by
     have:=hx.out
     rw [grp_end (by omega)] at this
     simpa using this
    have HF:=hide hfin
    clear hfin
    go_wp2
    go_ret
    rw [← HF.out]
    exact ⟨_,rfl,Own.of HO.out (by simp [bs]),HB.out⟩
   ·obtain ⟨d0,d1⟩:=part_pos l p 1
    have hg:part l p 5=part l p 1 * 2 ^ 4:=by
     have:=part_split l p 1 4
     rw [part_over l (p + 1) 4 (by omega)] at this
     simpa using this
    obtain ⟨dn,hdn⟩:=Int.eq_ofNat_of_zero_le d0
    rw [hdn] at hg d1 ⊢
    have l0:dn * 16 < 32:=by omega
    have hlt':=ltr_at (dn * 16) l0
    have hfin:xs++[ltr (dn * 16:Nat)]=b32 l:=by
     have:=hx.out
     rw [grp_more (by omega),grp_end (by omega),hg] at this
     rw [← this]
     simp
    have HF:=hide hfin
    clear hfin hg hdn
    go_wp2_with (at_builtin; refine wpList_app _ rfl (.tmp 43) (.tmp 49) _ rfl w.heap.size 5 i0 _ 1 Tryz.underlying39 hi0 hz0 hz1 hz2 rfl _ _ _ rfl (HO.out.alloc _) _ _ rfl (rd_one _ _ _) (bs_one _) (by rw [bs_length]; simp only [maxLen,List.length_singleton]; omega) (by rw [bs_length]; simp only [List.length_singleton]; omega) (by have:=HB.out.size; simp; omega) ?_; intro v3 w3 own3 gr3)
    go_ret
    rw [← HF.out]
    exact ⟨_,rfl,Own.of (own_cells own3 (bs_append _ _).symm) (by simp [bs]),Below.row (HB.out.alloc HB.out.size _) (by have:=HB.out.size; simp; omega) (HO.out.alloc _) gr3⟩
   ·obtain ⟨d0,d1⟩:=part_pos l p 2
    have hg:part l p 5=part l p 2 * 2 ^ 3:=by
     have:=part_split l p 2 3
     rw [part_over l (p + 2) 3 (by omega)] at this
     simpa using this
    obtain ⟨dn,hdn⟩:=Int.eq_ofNat_of_zero_le d0
    rw [hdn] at hg d1 ⊢
    have l0:dn * 8 < 32:=by omega
    have hlt':=ltr_at (dn * 8) l0
    have hfin:xs++[ltr (dn * 8:Nat)]=b32 l:=by
     have:=hx.out
     rw [grp_more (by omega),grp_end (by omega),hg] at this
     rw [← this]
     simp
    have HF:=hide hfin
    clear hfin hg hdn
    go_wp2_with (at_builtin; refine wpList_app _ rfl (.tmp 43) (.tmp 49) _ rfl w.heap.size 5 i0 _ 1 Tryz.underlying39 hi0 hz0 hz1 hz2 rfl _ _ _ rfl (HO.out.alloc _) _ _ rfl (rd_one _ _ _) (bs_one _) (by rw [bs_length]; simp only [maxLen,List.length_singleton]; omega) (by rw [bs_length]; simp only [List.length_singleton]; omega) (by have:=HB.out.size; simp; omega) ?_; intro v3 w3 own3 gr3)
    go_ret
    rw [← HF.out]
    exact ⟨_,rfl,Own.of (own_cells own3 (bs_append _ _).symm) (by simp [bs]),Below.row (HB.out.alloc HB.out.size _) (by have:=HB.out.size; simp; omega) (HO.out.alloc _) gr3⟩
   ·obtain ⟨d0,d1⟩:=part_pos l p 3
    have hg:part l p 5=part l p 3 * 2 ^ 2:=by
     have:=part_split l p 3 2
     rw [part_over l (p + 3) 2 (by omega)] at this
     simpa using this
    obtain ⟨dn,hdn⟩:=Int.eq_ofNat_of_zero_le d0
    rw [hdn] at hg d1 ⊢
    have l0:dn * 4 < 32:=by omega
    have hlt':=ltr_at (dn * 4) l0
    have hfin:xs++[ltr (dn * 4:Nat)]=b32 l:=by
     have:=hx.out
     rw [grp_more (by omega),grp_end (by omega),hg] at this
     rw [← this]
     simp
    have HF:=hide hfin
    clear hfin hg hdn
    go_wp2_with (at_builtin; refine wpList_app _ rfl (.tmp 43) (.tmp 49) _ rfl w.heap.size 5 i0 _ 1 Tryz.underlying39 hi0 hz0 hz1 hz2 rfl _ _ _ rfl (HO.out.alloc _) _ _ rfl (rd_one _ _ _) (bs_one _) (by rw [bs_length]; simp only [maxLen,List.length_singleton]; omega) (by rw [bs_length]; simp only [List.length_singleton]; omega) (by have:=HB.out.size; simp; omega) ?_; intro v3 w3 own3 gr3)
    go_ret
    rw [← HF.out]
    exact ⟨_,rfl,Own.of (own_cells own3 (bs_append _ _).symm) (by simp [bs]),Below.row (HB.out.alloc HB.out.size _) (by have:=HB.out.size; simp; omega) (HO.out.alloc _) gr3⟩
   ·obtain ⟨d0,d1⟩:=part_pos l p 4
    have hg:part l p 5=part l p 4 * 2 ^ 1:=by
     have:=part_split l p 4 1
     rw [part_over l (p + 4) 1 (by omega)] at this
     simpa using this
    obtain ⟨dn,hdn⟩:=Int.eq_ofNat_of_zero_le d0
    rw [hdn] at hg d1 ⊢
    have l0:dn * 2 < 32:=by omega
    have hlt':=ltr_at (dn * 2) l0
    have hfin:xs++[ltr (dn * 2:Nat)]=b32 l:=by
     have:=hx.out
     rw [grp_more (by omega),grp_end (by omega),hg] at this
     rw [← this]
     simp
    have HF:=hide hfin
    clear hfin hg hdn
    go_wp2_with (at_builtin; refine wpList_app _ rfl (.tmp 43) (.tmp 49) _ rfl w.heap.size 5 i0 _ 1 Tryz.underlying39 hi0 hz0 hz1 hz2 rfl _ _ _ rfl (HO.out.alloc _) _ _ rfl (rd_one _ _ _) (bs_one _) (by rw [bs_length]; simp only [maxLen,List.length_singleton]; omega) (by rw [bs_length]; simp only [List.length_singleton]; omega) (by have:=HB.out.size; simp; omega) ?_; intro v3 w3 own3 gr3)
    go_ret
    rw [← HF.out]
    exact ⟨_,rfl,Own.of (own_cells own3 (bs_append _ _).symm) (by simp [bs]),Below.row (HB.out.alloc HB.out.size _) (by have:=HB.out.size; simp; omega) (HO.out.alloc _) gr3⟩
/-- What Base32 answers. -/
def base32 (l:List Int):List Int:=if 64 < l.length then [] else b32 l
set_option maxHeartbeats 400000 in
theorem implBase32 (l:List Int) (hB:Byt l) (v:Value) (w:World) (hv:Rd w v (bs l)) :
  Calls Tryz.prog 223 #[v] w fun e w'=>∃ v',e=.returned v'∧Own 5 w.heap.size w'.heap.size w' v' (bs (base32 l))∧Below w.heap.size w w':=by
 by_cases h:64 < l.length
 ·rw [base32,if_pos h]
  obtain ⟨A,c,rfl,-,-,-⟩:=hv
  rw [bs_length]
  go_enter Tryz.func223,Tryz.ntmps223
  go_wp2
  go_ret
  exact ⟨_,rfl,Own.of (World.ownsRow_nil _ _ _ _) rfl,Below.refl _ _⟩
 ·rw [base32,if_neg h]
  exact implBaseIn l hB v w hv (by omega)
end Go.Proofs.YtgaadpkefncnmaaGreatDoor
