/-
  Parts of the proof: SearchN.
-/
import Derived.Test.YtgaadpkefncnmaaGreatDoorMp12
import Derived.Test.YtgaadpkefncnmaaGreatDoorMp29
import Derived.Laws.BytesArg
import Derived.IntWalk
import Derived.Deep.QuietTactic
import Derived.BigQuiet
import Derived.Deep.Cut
import Derived.Deep.DeepCutAuto
import Derived.Deep.CutBlock
import Derived.Deep.RegionWith
/-
  The library's binary search among names.
-/
namespace Go.Proofs.YtgaadpkefncnmaaGreatDoor
open Go.RowKit
set_option linter.unusedVariables false
set_option linter.unusedSimpArgs false
theorem cmpI_neg {a b:List Int} (ha:Byt a) (hb:Byt b):cmpI a b < 0↔lessL a b=true:=by
 have h:=cmpI_less ha hb
 cases hl:lessL a b with
 | true =>
   rw [hl] at h
   have:=of_decide_eq_false h
   exact ⟨fun _=>rfl,fun _=>by omega⟩
 | false =>
   rw [hl] at h
   have:=of_decide_eq_true h
   exact ⟨fun h=>by omega,fun h=>by cases h⟩
theorem cmpAsc {l:List (List Int)} {t:List Int} (hl:BytN l) (ht:Byt t) (ha:l.Pairwise (fun a b=>lessL a b=true)) {i j:Nat} (hij:i≤j) (hj:j < l.length) (h:0≤cmpI (l.getD i []) t):0≤cmpI (l.getD j []) t:=by
 have hi:i < l.length:=by omega
 have e1:l.getD i []=l[i]:=by simp [List.getD,List.getElem?_eq_getElem hi]
 have e2:l.getD j []=l[j]:=by simp [List.getD,List.getElem?_eq_getElem hj]
 rw [e1] at h
 rw [e2]
 rcases Nat.lt_or_ge i j with h1 | h1
 ·have h2:=List.pairwise_iff_getElem.1 ha i j hi hj h1
  by_cases h3:0≤cmpI l[j] t
  ·exact h3
  ·have h4:=(cmpI_neg (hl _ (List.getElem_mem hj)) ht).1 (by omega)
   have h5:=lessL_trans h2 h4
   have h6:=(cmpI_neg (hl _ (List.getElem_mem hi)) ht).2 h5
   omega
 ·obtain rfl:i=j:=by omega
  exact h
/-- What the search finds is what is there. -/
theorem found_name {l:List (List Int)} {t:List Int} (hl:BytN l) (ht:Byt t) (ha:l.Pairwise (fun a b=>lessL a b=true)) {p:Nat} (h1:∀ m,m < p→cmpI (l.getD m []) t < 0) (h2:p < l.length→0≤cmpI (l.getD p []) t):(decide (p < l.length) && decide (cmpI (l.getD p []) t=0))=decide (t∈l):=by
 by_cases hf:p < l.length∧cmpI (l.getD p []) t=0
 ·rw [decide_eq_true hf.1,decide_eq_true hf.2]
  have e1:l.getD p []=l[p]'hf.1:=by simp [List.getD,List.getElem?_eq_getElem hf.1]
  have h3:=hf.2
  rw [e1,cmpI_zero (hl _ (List.getElem_mem hf.1)) ht] at h3
  rw [decide_eq_true (h3 ▸ List.getElem_mem hf.1)]
  rfl
 ·have hn:t∉l:=fun h=>by
    obtain ⟨k,hk,e⟩:=List.mem_iff_getElem.1 h
    have e1:l.getD k []=t:=by rw [← e]; simp [List.getD,List.getElem?_eq_getElem hk]
    have z:cmpI (l.getD k []) t=0:=by rw [e1]; exact (cmpI_zero ht ht).2 rfl
    have hpk:p≤k:=by
     rcases Nat.lt_or_ge k p with h | h
     ·have:=h1 k h; omega
     ·exact h
    rcases Nat.lt_or_ge p k with h3 | h3
    ·have hp:p < l.length:=by omega
     have h4:=h2 hp
     have h5:=List.pairwise_iff_getElem.1 ha p k hp hk h3
     rw [e] at h5
     have e2:l.getD p []=l[p]:=by simp [List.getD,List.getElem?_eq_getElem hp]
     rw [e2] at h4
     have:=(cmpI_neg (hl _ (List.getElem_mem hp)) ht).2 h5
     omega
    ·obtain rfl:k=p:=by omega
     exact hf ⟨hk,z⟩
  rw [decide_eq_false hn,Bool.eq_false_iff]
  intro h
  rw [Bool.and_eq_true,decide_eq_true_eq,decide_eq_true_eq] at h
  exact hf h
set_option maxRecDepth 20000 in
set_option maxHeartbeats 3200000 in
theorem searchN (l:List (List Int)) (t:List Int) (hl:BytN l) (ht:Byt t) (ha:l.Pairwise (fun a b=>lessL a b=true)) (A:Option Addr) (n c:Nat) (hn:l.length=n) (hn2:n≤1048576) (vt:Value) (w:World) (hs:RdN w (.slice A n c) l) (htv:Rd w vt (bs t)) :
  Calls Tryz.prog 130 #[.slice A n c,vt,.func (.func 131) #[] #[]] w fun e w'=>∃ p:Nat,e=.returned (.tuple #[.int .i64 p,.bool (decide (t∈l))])∧p≤n∧(∀ m,m < p→lessL (l.getD m []) t=true)∧(∀ m,p≤m→m < n→lessL (l.getD m []) t=false)∧Below w.heap.size w w':=by
 have hmono:=fun i j (h1:i≤j) (h2:j < l.length) h3=>cmpAsc (i:=i) (j:=j) hl ht ha h1 h2 h3
 have hfin:=fun p h1 h2=>found_name (p:=p) hl ht ha h1 h2
 have hcx:=fun i (hi:i < l.length)=>cmpI_neg (hl (l.getD i []) (by simp [List.getD,List.getElem?_eq_getElem hi])) ht
 have hcc:=fun i v2 W (hb:Below w.heap.size w W) (h1:Rd W v2 (bs (l.getD i [])))=>compare (l.getD i []) t v2 vt W h1 (htv.below hb)
 obtain ⟨Q,hQ⟩:∃ Q,decide (t∈l)=Q:=⟨_,rfl⟩
 simp only [hQ] at hfin ⊢
 obtain ⟨Z,hZ⟩:∃ Z:Nat→Int,∀ i,cmpI (l.getD i []) t=Z i:=⟨_,fun _=>rfl⟩
 simp only [hZ] at hmono hfin hcx hcc
 have HS:=hide hs
 have HM:=hide hmono
 have HF:=hide hfin
 have HN:=hide hn
 have HCC:=hide hcc
 have HCX:=hide hcx
 clear hs htv hl ht ha hmono hfin hn hZ hcc hcx hQ
 go_enter Tryz.func130,Tryz.ntmps130
 go_wp2
 go_loopw [9,10] (fun a z wr=>∃ lo hi:Nat,a=.int .i64 lo∧z=.int .i64 hi∧lo≤hi∧hi≤n∧Hid (∀ m,m < lo→Z m < 0)∧Hid (∀ m,hi≤m→m < n→0≤Z m)∧Hid (Below w.heap.size w wr)) (fun a z _=>(intOf z).toNat - (intOf a).toNat)
 case atStart=>exact ⟨0,n,rfl,rfl,Nat.zero_le _,Nat.le_refl _,hide (fun m hm=>absurd hm (Nat.not_lt_zero _)),hide (fun m h1 h2=>by omega),hide (Below.refl _ _)⟩
 case round =>
  obtain ⟨lo,hi,rfl,rfl,hlh,hin,H1,H2,HB⟩:=hrel
  by_cases hlt:lo < hi
  ·have hk2:(lo + hi) / 2 < l.length:=by rw [HN.out]; omega
   obtain ⟨h,hh⟩:∃ h,(lo + hi) / 2=h:=⟨_,rfl⟩
   rw [hh] at hk2
   have g1:(lo:Int) < (hi:Int):=by omega
   have kk:((lo:Int) + (hi:Int)) / 2=(h:Int):=by omega
   have k1:(h:Int) < (n:Int):=by omega
   have k0:(0:Int)≤(h:Int):=by omega
   have k2_:(h:Int).toNat=h:=by omega
   have b1:lo≤h:=by omega
   have b2:h < hi:=by omega
   obtain ⟨b6,o6,x6,hA6,hb6,cx6,rx6⟩:=HS.out.get hk2
   subst hA6
   have cr:=(HB.out.cell (p:=⟨b6,o6 + h,none⟩) hb6).trans cx6
   have hic:=HCC.out h x6 wr HB.out (rx6.below HB.out)
   obtain ⟨z,hz⟩:∃ z,Z h=z:=⟨_,rfl⟩
   rw [hz] at hic
   have HIC:=hide hic
   have HZH:=hide hz
   clear hz hic cx6 rx6 hh
   go_wp2_with fail
   refine HIC.out.mono ?_
   rintro e w8 ⟨rfl,rfl⟩
   by_cases hneg:z < 0
   ·have HNG:=hide hneg
    go_wp2_with fail
    go_roundw
    case rel=>exact ⟨h + 1,hi,by go_num,rfl,by omega,hin,hide (fun m hm=>by
     by_cases hq:0≤Z m
     ·have h3:=HM.out m h (by omega) hk2 hq
      have h4:=HZH.out
      have h5:=HNG.out
      omega
     ·omega),H2,HB⟩
    case measure=>simp [intOf]; omega
   ·have HNG:=hide hneg
    go_wp2_with fail
    go_roundw
    case rel=>exact ⟨lo,h,rfl,by go_num,by omega,by omega,H1,hide (fun m h3 h4=>HM.out h m h3 (by rw [HN.out]; exact h4) (by have h5:=HZH.out; have h6:=HNG.out; omega)),HB⟩
    case measure=>simp [intOf]; omega
  ·obtain rfl:hi=lo:=by omega
   have g1:¬ (hi:Int) < (hi:Int):=by omega
   have HR:=hide (HF.out hi H1.out (fun h=>H2.out hi (Nat.le_refl _) (by rw [← HN.out]; exact h)))
   rw [HN.out] at HR
   have HE1:=hide (fun m (hm:m < hi)=>(HCX.out m (by rw [HN.out]; omega)).1 (H1.out m hm))
   have HE2:=hide (fun m (h1:hi≤m) (h2:m < n)=>show lessL (l.getD m []) t=false by
    have h3:=H2.out m h1 h2
    cases hx:lessL (l.getD m []) t with
    | false=>rfl
    | true =>
      have:=(HCX.out m (by rw [HN.out]; exact h2)).2 hx
      omega)
   by_cases hn3:hi < n
   ·have hk2:hi < l.length:=by rw [HN.out]; exact hn3
    have k1:(hi:Int) < (n:Int):=by omega
    have k0:(0:Int)≤(hi:Int):=by omega
    have k2_:(hi:Int).toNat=hi:=by omega
    obtain ⟨b6,o6,x6,hA6,hb6,cx6,rx6⟩:=HS.out.get hk2
    subst hA6
    have cr:=(HB.out.cell (p:=⟨b6,o6 + hi,none⟩) hb6).trans cx6
    have hic:=HCC.out hi x6 wr HB.out (rx6.below HB.out)
    obtain ⟨z,hz⟩:∃ z,Z hi=z:=⟨_,rfl⟩
    rw [hz] at hic HR
    rw [decide_eq_true hn3,Bool.true_and] at HR
    have HIC:=hide hic
    clear hz hic cx6 rx6
    go_wp2_with fail
    refine HIC.out.mono ?_
    rintro e w8 ⟨rfl,rfl⟩
    go_wp2_with fail
    go_ret2
    exact ⟨hi,by rw [← HR.out] <;> rfl,hin,HE1.out,HE2.out,HB.out⟩
   ·have g2:¬ (hi:Int) < (n:Int):=by omega
    rw [decide_eq_false hn3,Bool.false_and] at HR
    go_wp2_with fail
    go_ret2
    exact ⟨hi,by rw [← HR.out] <;> rfl,hin,HE1.out,HE2.out,HB.out⟩
end Go.Proofs.YtgaadpkefncnmaaGreatDoor
