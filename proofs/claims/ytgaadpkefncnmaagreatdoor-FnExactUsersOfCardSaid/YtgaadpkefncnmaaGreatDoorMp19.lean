/-
  Parts of the proof: Door, ShaN, ShaO, Name, M4, OutI, At4, ObjP, Made4, ObjI1, ObjI2.
-/
import Derived.Test.YtgaadpkefncnmaaGreatDoorMp16
import Derived.Test.YtgaadpkefncnmaaGreatDoorMp0
import Derived.Test.YtgaadpkefncnmaaGreatDoorCards
import Derived.Test.YtgaadpkefncnmaaGreatDoorTie
import Derived.Deep.DeepHandedRow
import Derived.Lib.LaidTab
import Derived.OpenVars
import Derived.Test.YtgaadpkefncnmaaGreatDoorMp18
import Derived.Test.YtgaadpkefncnmaaGreatDoorMp3
import Derived.Test.YtgaadpkefncnmaaGreatDoorMp1
import Derived.Test.YtgaadpkefncnmaaGreatDoorMp12
import Derived.Test.YtgaadpkefncnmaaGreatDoorMp7
import Derived.WalkSpells
import Derived.Laws.BytesArg
import Derived.IntWalk
import Derived.Deep.QuietTactic
import Derived.BigQuiet
import Derived.Deep.Cut
import Derived.Deep.DeepCutAuto
import Derived.Deep.CutBlock
import Derived.Test.YtgaadpkefncnmaaGreatDoorMp14
import Derived.Deep.RegionWith
import Derived.Test.YtgaadpkefncnmaaGreatDoorMp13
import Derived.Deep.RegionHeld3
/-
  The table of the program, as a row lists it.
-/
namespace Go.Proofs.YtgaadpkefncnmaaGreatDoor
open Go.ChangeShapes Go.WideShapes Go.ChangeAt Go.RowKit
theorem gKeys:Tryz.prog.globalNamed "loop.example/g00538/impl.roundKeys" = some 2:=by kernel_rfl
theorem gKeysType:(Tryz.prog.globals[2]?).map (·.type)=some 257:=by kernel_rfl
theorem cellsKeys:Tryz.prog.cellsOf 257=64:=by kernel_rfl
theorem cellsU32:Tryz.prog.cellsOf 230=1:=by kernel_rfl
theorem tab_of_laid {W:World} (h:laidMet Tryz.prog [("loop.example/g00538/impl.roundKeys",Rows.laid_loop_example_g00538_impl_roundKeys)] W):Tab W:=by
 have h1:Lib.TabIs Tryz.prog W "loop.example/g00538/impl.roundKeys" .u32 KL :=
  Lib.tabIs_of_head (rest:=[]) gKeys gKeysType Tryz.underlying257 Tryz.underlying230 cellsU32 cellsKeys h
 unfold Lib.TabIs World.var? at h1
 rw [gKeys] at h1
 simp only [Option.bind_some] at h1
 split at h1
 ·rename_i cs t fr hb
  have e:cs=wd KL:=Option.some.inj h1
  subst e
  exact ⟨t,fr,hb⟩
 ·cases h1
/-- A world in which the table holds what its declaration says. -/
noncomputable def laidWorld (os:Os):World :=
 { World.holding Tryz.prog os ⟨#[],#[],[]⟩ with heap:=(World.holding Tryz.prog os ⟨#[],#[],[]⟩).heap.modify 2 fun
   | .cells _ t frozen=>.cells (wd KL) t frozen
   | o=>o }
theorem laid_met (os:Os) (args:Array Value):laidMet Tryz.prog [("loop.example/g00538/impl.roundKeys",Rows.laid_loop_example_g00538_impl_roundKeys)] ((laidWorld os).forCall (fun _ _=>0) ⟨#[],args,[]⟩).memory :=
 laidMet_of_run' 8 (by kernel_rfl) (by kernel_rfl)
end Go.Proofs.YtgaadpkefncnmaaGreatDoor
/-
  Sha256: the model and the program give the same bytes.
-/
namespace Go.Proofs.YtgaadpkefncnmaaGreatDoor
open Go.RowKit
set_option linter.unusedVariables false
theorem Rd.far {w w1 w' : World} {v:Value} {xs:List Value} {lo hi:Nat} (h:Rd w v xs) (hb:Below w.heap.size w w1) (ho:Outside lo hi w1 w') (hlo:w.heap.size≤lo):Rd w' v xs :=
 h.below (ho.below hb hlo hb.size)
set_option maxRecDepth 20000 in
set_option maxHeartbeats 1600000 in
theorem mixAll (l:List Int) (hB:Byt l) (n:Nat) (hn:l.length=64 * n) (hl:n≤100000) (s:S8) (hs:s.Ok) (g:Nat) (v:Value) (w:World)
  (hv:∀ W,Outside g (g + 1) w W→Rd W v (bs l)) (hg:At w g 270 (wd s.list)) (hT:Tab w) (hne:2 < g) :
  Calls Tryz.prog 252 #[.pointer (some ⟨g,0,none⟩),v] w fun e w'=>(∃ v,e=.returned v)∧At w' g 270 (wd (hashN s l n).list)∧Outside g (g + 1) w w':=by
 have h0:Outside g (g + 1) w w:=Outside.of_below (Below.refl _ _) _ _
 obtain ⟨A,c,rfl,hc1,hc2,_⟩:=hv w h0
 rw [bs_length] at *
 unfold maxLen at hc2
 have HG:=hide hg
 have HT:=hide hT
 have HV:=hide hv
 have HN:=hide hn
 have hlm:l.length≤6400000:=by omega
 clear hg hT hv hn
 go_enter Tryz.func252,Tryz.ntmps252
 go_wp2
 go_loopw [4] (fun i wr=>∃ k:Nat,k≤n∧i=.int .i64 (64 * k)∧At wr g 270 (wd (hashN s l k).list)∧Outside g (g + 1) w wr)
  (fun i _=>l.length - (intOf i).toNat)
 case atStart=>exact ⟨0,by omega,by go_num,HG.out,h0⟩
 case round =>
  obtain ⟨k,hk,rfl,hat,hO⟩:=hrel
  have hn:=HN.out
  by_cases hlt:k < n
  ·obtain ⟨A2,c2,e2,_,_,hrd⟩:=HV.out wr hO
   injection e2 with e3 _ e4
   subst e3 e4
   rw [bs_length] at *
   obtain ⟨b,off,rfl,hblt,hcell⟩:=hrd (by omega)
   have hpart:Rd wr (.slice (some ⟨b,off + 64 * k,none⟩) 64 (c - 64 * k)) (bs (blk64 l k)):=Rd.part hcell hblt (k:=64 * k) (n:=64) (by omega) (by omega) (by unfold maxLen; omega) rfl
   have hmix:=mix (hashN s l k) (hashN_ok hs _ _) g (blk64 l k) (blk_byt hB k) (blk_len (by omega)) _ wr hpart hat (HT.out.outside hO hne)
   have HO:=hide hO
   clear hcell hrd hpart hat hO
   have q6:64 * (k:Int)≤64 * (k:Int) + 64:=by omega
   have q7:¬ c=64 * k:=by omega
   have q5:64 * (k:Int) + 64≤(c:Int):=by omega
   have q4:64 * (k:Int) < (l.length:Int):=by omega
   have hm:l.length - (64 * k + 64) < l.length - 64 * k:=by omega
   clear hn
   go_wp2_with (go_at_call 270; (with_reducible refine hmix.mono ?_); rintro e w2 ⟨⟨v2,rfl⟩,at2,o2⟩)
   go_roundw
   case rel=>exact ⟨k + 1,by omega,by go_num,at2,HO.out.trans o2⟩
   case measure=>have hn:=HN.out; simp [intOf]; omega
  ·obtain rfl:k=n:=by omega
   have HA:=hide hat
   have HO:=hide hO
   have q4:¬ 64 * (k:Int) < (l.length:Int):=by omega
   clear hat hO hn
   go_wp2
   go_end0
   exact ⟨⟨_,rfl⟩,HA.out,HO.out⟩
/-- What Sha256 answers. -/
def sha256 (l:List Int):List Int:=if 100000 < l.length then [] else shaL l
end Go.Proofs.YtgaadpkefncnmaaGreatDoor
/-
  The program's Sha256.
-/
namespace Go.Proofs.YtgaadpkefncnmaaGreatDoor
open Go.RowKit
set_option linter.unusedVariables false
/-- What comes of the three calls, whatever the two slices are called. -/
theorem shaEnd (l:List Int) (hB:Byt l) (n:Nat) (hn:l.length / 64=n) (s1 s2:S8) (m:Nat) (h1:hashN S0 (l.take (64 * n)) n=s1) (hm:(l.drop (64 * n)++tailB l.length).length=64 * m) (h2:hashN s1 (l.drop (64 * n)++tailB l.length) m=s2) :
  shaL l=outB s2.list:=by
 subst hn h1 h2
 rw [shaL_parts,hm]
 congr 3
 omega
set_option maxRecDepth 20000 in
set_option maxHeartbeats 3200000 in
theorem implShaIn (l:List Int) (hB:Byt l) (v:Value) (w:World) (hv:Rd w v (bs l)) (hl:l.length≤100000) (hT:Tab w) :
  Calls Tryz.prog 222 #[v] w fun e w'=>∃ v',e=.returned v'∧Own 5 w.heap.size w'.heap.size w' v' (bs (shaL l))∧Below w.heap.size w w':=by
 obtain ⟨A,c,hV,hc1,hc2,hrd⟩:=id hv
 rw [bs_length] at *
 unfold maxLen at hc2
 subst hV
 obtain ⟨n,hn⟩:∃ n,l.length / 64=n:=⟨_,rfl⟩
 obtain ⟨m,hm⟩:∃ m,(l.drop (64 * n)++tailB l.length).length=64 * m:=⟨(l.drop (64 * n)++tailB l.length).length / 64,by
  have:=pad_mod l.length
  rw [List.length_append,List.length_drop]
  omega⟩
 have hmb:m≤10:=by
  have:=pad_le l.length
  rw [List.length_append,List.length_drop] at hm
  omega
 obtain ⟨s1,h1⟩:∃ s1,hashN S0 (l.take (64 * n)) n=s1:=⟨_,rfl⟩
 have hs1:s1.Ok:=by rw [← h1]; exact hashN_ok S0_ok _ _
 obtain ⟨s2,h2⟩:∃ s2,hashN s1 (l.drop (64 * n)++tailB l.length) m=s2:=⟨_,rfl⟩
 have hs2:s2.Ok:=by rw [← h2]; exact hashN_ok hs1 _ _
 rw [shaEnd l hB n hn s1 s2 m h1 hm h2]
 have hz:zpad (l.drop (64 * n)).length=zpad l.length:=by rw [← hn]; exact zpad_rest l
 -- the two slices
 have hA:∀ v1 W,Rd w v1 (bs (l.take (64 * n)))→At W W.heap.size.pred 270 (wd S0.list)→True:=fun _ _ _ _=>trivial
 clear hA
 have ht:(l.take (64 * n)).length=64 * n:=by rw [List.length_take]; omega
 have hd:(l.drop (64 * n)).length=l.length - 64 * n:=List.length_drop
 have first:∀ (v1:Value) (g:Nat) (w1:World),Rd w v1 (bs (l.take (64 * n)))→Below w.heap.size w w1→w.heap.size≤g→At w1 g 270 (wd S0.list) →
   Calls Tryz.prog 252 #[.pointer (some ⟨g,0,none⟩),v1] w1 fun e w2=>(∃ v,e=.returned v)∧At w2 g 270 (wd s1.list)∧Outside g (g + 1) w1 w2:=fun v1 g w1 hr hb hg hat=>by
  have h:=mixAll (l.take (64 * n)) (hB.take _) n ht (by omega) S0 S0_ok g v1 w1 (fun W hO=>hr.far hb hO hg) hat (hT.step hb) (Nat.lt_of_lt_of_le hT.lt hg)
  rw [h1] at h
  exact h
 have second:∀ (v2:Value) (q:Int) (W:World),q=(l.length:Int)→Rd W v2 (bs (l.drop (64 * n))) →
   Calls Tryz.prog 253 #[v2,.int .i64 q] W fun e w'=>∃ v',e=.returned v'∧w'.ownsRow W.heap.size 5 1 v' (64 * m) (bs (l.drop (64 * n)++tailB l.length))∧Below W.heap.size W w':=fun v2 q W hq hr=>by
  subst hq
  have h:=padded (l.drop (64 * n)) v2 l.length W hr hl (by rw [hd]; omega) hz
  rw [hm] at h
  exact h
 have third:∀ (v3:Value) (g lo:Nat) (W:World),W.ownsRow lo 5 1 v3 (64 * m) (bs (l.drop (64 * n)++tailB l.length))→g < lo→At W g 270 (wd s1.list)→Tab W→w.heap.size≤g →
   Calls Tryz.prog 252 #[.pointer (some ⟨g,0,none⟩),v3] W fun e w2=>(∃ v,e=.returned v)∧At w2 g 270 (wd s2.list)∧Outside g (g + 1) W w2:=fun v3 g lo W ho hlo hat hT2 hg=>by
  have h:=mixAll (l.drop (64 * n)++tailB l.length) ((hB.drop _).app (tailB_byt _)) m hm (by omega) s1 hs1 g v3 W
   (fun W' hO=>((Own.of ho (by rw [bs_length,hm])).outside hO (.inr hlo)).rd) hat hT2 (Nat.lt_of_lt_of_le hT.lt hg)
  rw [h2] at h
  exact h
 have last:∀ (g:Nat) (W:World),At W g 270 (wd s2.list) →
   Calls Tryz.prog 254 #[.pointer (some ⟨g,0,none⟩)] W fun e w'=>∃ v',e=.returned v'∧Own 5 W.heap.size w'.heap.size w' v' (bs (outB s2.list))∧Below W.heap.size W w':=fun g W hat =>
  hashSum s2.list rfl (S8.list_32 hs2) g W hat
 have HT:=hide hT
 have hdiv:(l.length:Int) / 64 * 64=((64 * n:Nat):Int):=by omega
 have H1:Hid (∀ k,k=64 * n→Rd w (.slice A k c) (bs (l.take (64 * n)))):=hide (fun k hk=>by
  subst hk
  cases A with
  | none =>
    have h0:l.length=0:=by
     rcases Nat.eq_zero_or_pos l.length with h | h
     ·exact h
     ·obtain ⟨b,off,hA,_⟩:=hrd h
      cases hA
    have e:l.take (64 * n) = []:=by rw [List.eq_nil_of_length_eq_zero h0,List.take_nil]
    rw [e]
    exact Rd.empty (by omega) (by unfold maxLen; omega)
  | some a =>
    rcases Nat.eq_zero_or_pos l.length with h | h
    ·have e:l.take (64 * n) = []:=by rw [List.eq_nil_of_length_eq_zero h,List.take_nil]
     rw [e]
     exact Rd.empty (by omega) (by unfold maxLen; omega)
    ·obtain ⟨b,off,hA,hblt,hcell⟩:=hrd h
     cases hA
     have hp:=Rd.part hcell hblt (k:=0) (n:=64 * n) (by omega) hc1 (by unfold maxLen; omega) rfl
     simpa using hp)
 have H2:Hid (∀ A2 k c2,k=l.length - 64 * n→(k=0∨∃ b off,A=some ⟨b,off,none⟩∧A2=some ⟨b,off + 64 * n,none⟩)→c2=c - 64 * n→Rd w (.slice A2 k c2) (bs (l.drop (64 * n)))):=hide (fun A2 k c2 hk hh hc=>by
  have e:(l.drop (64 * n)).take (l.length - 64 * n)=l.drop (64 * n):=List.take_of_length_le (by rw [List.length_drop]; omega)
  rcases Nat.eq_zero_or_pos k with h0 | h0
  ·have e0:l.drop (64 * n) = []:=List.drop_eq_nil_of_le (by omega)
   rw [e0]
   exact Rd.empty h0 (by unfold maxLen; omega)
  ·rcases hh with h | ⟨b,off,rfl,rfl⟩
   ·omega
   ·obtain ⟨b2,off2,hA,hblt,hcell⟩:=hrd (by omega)
    cases hA
    have hp:=Rd.part hcell hblt (k:=64 * n) (n:=l.length - 64 * n) (by omega) hc1 (by unfold maxLen; omega) hk
    rw [e] at hp
    rw [hc]
    exact hp)
 have u0:(0:Int)≤((64 * n:Nat):Int):=by omega
 have u1:((64 * n:Nat):Int)≤(l.length:Int):=by omega
 have u2:((64 * n:Nat):Int)≤(c:Int):=by omega
 have Z0:Hid (A=none→l.length=0):=hide (fun hA=>by
  rcases Nat.eq_zero_or_pos l.length with h | h
  ·exact h
  ·obtain ⟨b,off,hA2,_⟩:=hrd h
   rw [hA] at hA2
   cases hA2)
 have Z1:Hid (0 < l.length→∀ a,A=some a→∃ b off,a=⟨b,off,none⟩):=hide (fun h a hA=>by
  obtain ⟨b,off,hA2,_⟩:=hrd h
  rw [hA] at hA2
  cases hA2
  exact ⟨_,_,rfl⟩)
 have HB:=hide hB
 have G1:=hide first
 have G2:=hide second
 have G3:=hide third
 have G4:=hide last
 clear hv hrd hB first second third last hm hmb h1 hs1 h2 hs2 hz ht hd hT
 have hdiv2:(l.length:Int) / 64 * 64=64 * (n:Int):=by omega
 have u3:64 * (n:Int)≤(l.length:Int):=by omega
 have u4:64 * (n:Int)≤(c:Int):=by omega
 clear hdiv hn u0 u1 u2
 cases A with
 | none =>
   have hl0:l.length=0:=Z0.out rfl
   have hn0:n=0:=by omega
   subst hn0
   go_enter Tryz.func222,Tryz.ntmps222
   go_wp2_with (first
    | ((with_reducible refine at_slot 8 ?_); refine wpList_build_as (wd S0.list) rfl _ _ rfl (by kernel_rfl) ?_)
    | ((with_reducible refine at_slot 3 ?_); refine wpList_alloc_zero rfl _ rfl (wd Z8) (by kernel_rfl) ?_; intro w1 at1 b1 z1)
    | ((with_reducible refine at_none ?_); refine wpList_store_all rfl _ _ _ rfl w.heap.size (wd S0.list) rfl rfl _ _ at1 (by kernel_rfl) (by kernel_rfl) (wd_one _) ?_; intro w2 at2 b2 z2 n2; have bw2:=b1.trans (b2 _ (Nat.le_refl _)))
    | (go_at_call 252; (with_reducible refine (G1.out _ w.heap.size w2 (H1.out _ (by omega)) bw2 (Nat.le_refl _) at2).mono ?_); rintro e w3 ⟨⟨v3,rfl⟩,at3,o3⟩; have bw3:=o3.below bw2 (Nat.le_refl _) bw2.size; have t3:=HT.out.step bw3)
    | (go_at_call 253; (with_reducible refine (G2.out _ _ w3 (by omega) (Rd.below (H2.out _ _ _ (by omega) (.inl (by omega)) (by omega)) bw3)).mono ?_); rintro e w4 ⟨v4,rfl,o4,b4⟩; have at4:=at3.step b4; have bw4:=bw3.trans (b4.mono bw3.size))
    | (go_at_call 252; (with_reducible refine (G3.out _ w.heap.size w3.heap.size w4 o4 at3.lt at4 (t3.step b4) (Nat.le_refl _)).mono ?_); rintro e w5 ⟨⟨v5,rfl⟩,at5,o5⟩; have bw5:=o5.below bw4 (Nat.le_refl _) bw4.size)
    | (go_at_call 254; (with_reducible refine (G4.out w.heap.size w5 at5).mono ?_); rintro e w6 ⟨v6,rfl,o6,b6⟩))
   go_ret
   exact ⟨_,rfl,o6.wide bw5.size (Nat.le_refl _) (Nat.le_refl _),bw5.trans (b6.mono bw5.size)⟩
 | some a =>
   by_cases hcw:c=64 * n
   ·subst hcw
    have hll:l.length=64 * n:=by omega
    go_enter Tryz.func222,Tryz.ntmps222
    go_wp2_with (first
     | ((with_reducible refine at_slot 8 ?_); refine wpList_build_as (wd S0.list) rfl _ _ rfl (by kernel_rfl) ?_)
     | ((with_reducible refine at_slot 3 ?_); refine wpList_alloc_zero rfl _ rfl (wd Z8) (by kernel_rfl) ?_; intro w1 at1 b1 z1)
     | ((with_reducible refine at_none ?_); refine wpList_store_all rfl _ _ _ rfl w.heap.size (wd S0.list) rfl rfl _ _ at1 (by kernel_rfl) (by kernel_rfl) (wd_one _) ?_; intro w2 at2 b2 z2 n2; have bw2:=b1.trans (b2 _ (Nat.le_refl _)))
     | (go_at_call 252; (with_reducible refine (G1.out _ w.heap.size w2 (H1.out _ (by omega)) bw2 (Nat.le_refl _) at2).mono ?_); rintro e w3 ⟨⟨v3,rfl⟩,at3,o3⟩; have bw3:=o3.below bw2 (Nat.le_refl _) bw2.size; have t3:=HT.out.step bw3)
     | (go_at_call 253; (with_reducible refine (G2.out _ _ w3 (by omega) (Rd.below (H2.out _ _ _ (by omega) (.inl (by omega)) (by omega)) bw3)).mono ?_); rintro e w4 ⟨v4,rfl,o4,b4⟩; have at4:=at3.step b4; have bw4:=bw3.trans (b4.mono bw3.size))
     | (go_at_call 252; (with_reducible refine (G3.out _ w.heap.size w3.heap.size w4 o4 at3.lt at4 (t3.step b4) (Nat.le_refl _)).mono ?_); rintro e w5 ⟨⟨v5,rfl⟩,at5,o5⟩; have bw5:=o5.below bw4 (Nat.le_refl _) bw4.size)
     | (go_at_call 254; (with_reducible refine (G4.out w.heap.size w5 at5).mono ?_); rintro e w6 ⟨v6,rfl,o6,b6⟩))
    go_ret
    exact ⟨_,rfl,o6.wide bw5.size (Nat.le_refl _) (Nat.le_refl _),bw5.trans (b6.mono bw5.size)⟩
   ·rcases Nat.eq_zero_or_pos l.length with hl0 | hl0
    ·have hn0:n=0:=by omega
     subst hn0
     go_enter Tryz.func222,Tryz.ntmps222
     go_wp2_with (first
      | ((with_reducible refine at_slot 8 ?_); refine wpList_build_as (wd S0.list) rfl _ _ rfl (by kernel_rfl) ?_)
      | ((with_reducible refine at_slot 3 ?_); refine wpList_alloc_zero rfl _ rfl (wd Z8) (by kernel_rfl) ?_; intro w1 at1 b1 z1)
      | ((with_reducible refine at_none ?_); refine wpList_store_all rfl _ _ _ rfl w.heap.size (wd S0.list) rfl rfl _ _ at1 (by kernel_rfl) (by kernel_rfl) (wd_one _) ?_; intro w2 at2 b2 z2 n2; have bw2:=b1.trans (b2 _ (Nat.le_refl _)))
      | (go_at_call 252; (with_reducible refine (G1.out _ w.heap.size w2 (H1.out _ (by omega)) bw2 (Nat.le_refl _) at2).mono ?_); rintro e w3 ⟨⟨v3,rfl⟩,at3,o3⟩; have bw3:=o3.below bw2 (Nat.le_refl _) bw2.size; have t3:=HT.out.step bw3)
      | (go_at_call 253; (with_reducible refine (G2.out _ _ w3 (by omega) (Rd.below (H2.out _ _ _ (by omega) (.inl (by omega)) (by omega)) bw3)).mono ?_); rintro e w4 ⟨v4,rfl,o4,b4⟩; have at4:=at3.step b4; have bw4:=bw3.trans (b4.mono bw3.size))
      | (go_at_call 252; (with_reducible refine (G3.out _ w.heap.size w3.heap.size w4 o4 at3.lt at4 (t3.step b4) (Nat.le_refl _)).mono ?_); rintro e w5 ⟨⟨v5,rfl⟩,at5,o5⟩; have bw5:=o5.below bw4 (Nat.le_refl _) bw4.size)
      | (go_at_call 254; (with_reducible refine (G4.out w.heap.size w5 at5).mono ?_); rintro e w6 ⟨v6,rfl,o6,b6⟩))
     go_ret
     exact ⟨_,rfl,o6.wide bw5.size (Nat.le_refl _) (Nat.le_refl _),bw5.trans (b6.mono bw5.size)⟩
    ·obtain ⟨b,off,ha⟩:=Z1.out hl0 a rfl
     subst ha
     go_enter Tryz.func222,Tryz.ntmps222
     go_wp2_with (first
      | ((with_reducible refine at_slot 8 ?_); refine wpList_build_as (wd S0.list) rfl _ _ rfl (by kernel_rfl) ?_)
      | ((with_reducible refine at_slot 3 ?_); refine wpList_alloc_zero rfl _ rfl (wd Z8) (by kernel_rfl) ?_; intro w1 at1 b1 z1)
      | ((with_reducible refine at_none ?_); refine wpList_store_all rfl _ _ _ rfl w.heap.size (wd S0.list) rfl rfl _ _ at1 (by kernel_rfl) (by kernel_rfl) (wd_one _) ?_; intro w2 at2 b2 z2 n2; have bw2:=b1.trans (b2 _ (Nat.le_refl _)))
      | (go_at_call 252; (with_reducible refine (G1.out _ w.heap.size w2 (H1.out _ rfl) bw2 (Nat.le_refl _) at2).mono ?_); rintro e w3 ⟨⟨v3,rfl⟩,at3,o3⟩; have bw3:=o3.below bw2 (Nat.le_refl _) bw2.size; have t3:=HT.out.step bw3)
      | (go_at_call 253; (with_reducible refine (G2.out _ _ w3 (by omega) (Rd.below (H2.out _ _ _ (by omega) (.inr ⟨_,_,rfl,rfl⟩) (by omega)) bw3)).mono ?_); rintro e w4 ⟨v4,rfl,o4,b4⟩; have at4:=at3.step b4; have bw4:=bw3.trans (b4.mono bw3.size))
      | (go_at_call 252; (with_reducible refine (G3.out _ w.heap.size w3.heap.size w4 o4 at3.lt at4 (t3.step b4) (Nat.le_refl _)).mono ?_); rintro e w5 ⟨⟨v5,rfl⟩,at5,o5⟩; have bw5:=o5.below bw4 (Nat.le_refl _) bw4.size)
      | (go_at_call 254; (with_reducible refine (G4.out w.heap.size w5 at5).mono ?_); rintro e w6 ⟨v6,rfl,o6,b6⟩))
     go_ret
     exact ⟨_,rfl,o6.wide bw5.size (Nat.le_refl _) (Nat.le_refl _),bw5.trans (b6.mono bw5.size)⟩
set_option maxHeartbeats 400000 in
theorem implSha (l:List Int) (hB:Byt l) (v:Value) (w:World) (hv:Rd w v (bs l)) (hT:Tab w) :
  Calls Tryz.prog 222 #[v] w fun e w'=>∃ v',e=.returned v'∧Own 5 w.heap.size w'.heap.size w' v' (bs (sha256 l))∧Below w.heap.size w w':=by
 by_cases h:100000 < l.length
 ·rw [sha256,if_pos h]
  obtain ⟨A,c,hV,hc1,hc2,_⟩:=id hv
  rw [bs_length] at *
  unfold maxLen at hc2
  subst hV
  clear hv hT
  go_enter Tryz.func222,Tryz.ntmps222
  go_wp2
  go_ret
  exact ⟨_,rfl,Own.of (World.ownsRow_nil _ _ _ _) rfl,Below.refl _ _⟩
 ·rw [sha256,if_neg h]
  exact implShaIn l hB v w hv (by omega) hT
end Go.Proofs.YtgaadpkefncnmaaGreatDoor
/-
  NameOf: the model and the program give the same characters.
-/
namespace Go.Proofs.YtgaadpkefncnmaaGreatDoor
open Go.RowKit
set_option linter.unusedVariables false
/-- What NameOf answers. -/
def nameOf (k:Int) (l:List Int):List Int:=if 90000 < l.length then [] else b32 ((shaL (k :: l)).take 10)
theorem sha10_len (l:List Int):((shaL l).take 10).length=10:=by rw [List.length_take,shaL_len]; rfl
theorem sha10_byt (l:List Int):Byt ((shaL l).take 10):=(shaL_byt l).take 10
theorem base32_ten (l:List Int):base32 ((shaL l).take 10)=b32 ((shaL l).take 10):=by
 rw [base32,if_neg (by rw [sha10_len]; omega)]
/-- The first ten elements of a row of 32. -/
theorem Rd.ten {w:World} {A:Option Addr} {c:Nat} {l:List Int} (h:Rd w (.slice A 32 c) (bs (shaL l))):∃ b off,A=some ⟨b,off,none⟩∧32≤c∧c≤maxLen∧Rd w (.slice A 10 c) (bs ((shaL l).take 10)):=by
 obtain ⟨A2,c2,e,h1,h2,h3⟩:=h
 rw [bs_length,shaL_len] at *
 injection e with e1 _ e2
 subst e1 e2
 obtain ⟨b,off,rfl,hb,hc⟩:=h3 (by omega)
 refine ⟨b,off,rfl,h1,h2,?_⟩
 have:=Rd.part hc hb (k:=0) (n:=10) (by rw [shaL_len]; omega) (by rw [shaL_len]; exact h1) h2 rfl
 simpa using this
set_option maxRecDepth 20000 in
set_option maxHeartbeats 800000 in
theorem specName (k:Int) (hk:0≤k∧k≤255) (l:List Int) (hB:Byt l) (v:Value) (w:World) (hv:Rd w v (bs l)) (hl:l.length≤90000) :
  Calls Tryz.prog 147 #[.int .u8 k,v] w fun e w'=>∃ v',e=.returned v'∧Own 5 w.heap.size w'.heap.size w' v' (bs (b32 ((shaL (k :: l)).take 10)))∧Below w.heap.size w w':=by
 obtain ⟨i0,hi0,hz0,hz1,hz2⟩:=info_parts u8info
 have hB2:Byt (k :: l):=(Byt.one hk.1 hk.2).app hB
 obtain ⟨A,c,hV,hc1,hc2,_⟩:=id hv
 rw [bs_length] at *
 unfold maxLen at hc2
 subst hV
 have HV:=hide hv
 clear hv
 have own1:(w.alloc (.cells #[.int .u8 k] 5)).ownsRow w.heap.size 5 1 (.slice (some ⟨w.heap.size,0,none⟩) 1 1) 1 (bs [k]):=World.ownsRow_lit w #[.int .u8 k] 1 (by omega) (by simp [maxLen]) rfl
 go_enter Tryz.func147,Tryz.ntmps147
 go_wp2_with (first
  | (at_builtin; refine wpList_app _ rfl _ _ _ rfl w.heap.size 5 i0 _ 1 Tryz.underlying39 hi0 hz0 hz1 hz2 rfl _ _ _ rfl own1 _ (bs l) rfl (HV.out.alloc _) (bs_one l) (by rw [bs_length]; simp only [maxLen]; omega) (by rw [bs_length]; omega) (by simp) ?_; intro v1 w1 own2 gr1; have b1:Below w.heap.size w w1:=Below.row ((Below.refl _ _).alloc (Nat.le_refl _) _) (by simp) own1 gr1; have r1:Rd w1 v1 (bs (k :: l)):=(Own.of (own_cells own2 (bs_append [k] l).symm) (by simp [bs]; omega)).rd)
  | (go_at_call 185; (with_reducible refine (specSum (k :: l) hB2 v1 w1 r1 (by simp; omega)).mono ?_); rintro e w2 ⟨v2,rfl,o2,b2⟩; obtain ⟨A2,c2,rfl,hc3,hc4⟩:=own_slice o2.1; rw [bs_length,shaL_len] at *; obtain ⟨bb,off,rfl,hc5,hc6,r2⟩:=o2.rd.ten; unfold maxLen at hc6)
  | (go_at_call 184; (with_reducible refine (specBase ((shaL (k :: l)).take 10) (sha10_byt _) _ w2 r2 (by rw [sha10_len]; omega)).mono ?_); rintro e w3 ⟨v3,rfl,o3,b3⟩))
 go_ret
 have c2' : Below w.heap.size w w2:=b1.trans (b2.mono b1.size)
 exact ⟨_,rfl,o3.wide c2'.size (Nat.le_refl _) (Nat.le_refl _),c2'.trans (b3.mono c2'.size)⟩
set_option maxRecDepth 20000 in
set_option maxHeartbeats 800000 in
theorem implNameOf (k:Int) (hk:0≤k∧k≤255) (l:List Int) (hB:Byt l) (v:Value) (w:World) (hv:Rd w v (bs l)) (hT:Tab w) :
  Calls Tryz.prog 202 #[.int .u8 k,v] w fun e w'=>∃ v',e=.returned v'∧Own 5 w.heap.size w'.heap.size w' v' (bs (nameOf k l))∧Below w.heap.size w w':=by
 obtain ⟨i0,hi0,hz0,hz1,hz2⟩:=info_parts u8info
 have hB2:Byt (k :: l):=(Byt.one hk.1 hk.2).app hB
 obtain ⟨A,c,hV,hc1,hc2,_⟩:=id hv
 rw [bs_length] at *
 unfold maxLen at hc2
 subst hV
 have HT:=hide hT
 clear hT
 by_cases h:90000 < l.length
 ·rw [nameOf,if_pos h]
  clear hv
  go_enter Tryz.func202,Tryz.ntmps202
  go_wp2
  go_ret
  exact ⟨_,rfl,Own.of (World.ownsRow_nil _ _ _ _) rfl,Below.refl _ _⟩
 ·rw [nameOf,if_neg h]
  have HV:=hide hv
  clear hv
  have own1:(w.alloc (.cells #[.int .u8 k] 5)).ownsRow w.heap.size 5 1 (.slice (some ⟨w.heap.size,0,none⟩) 1 1) 1 (bs [k]):=World.ownsRow_lit w #[.int .u8 k] 1 (by omega) (by simp [maxLen]) rfl
  have hsh:sha256 (k :: l)=shaL (k :: l):=by rw [sha256,if_neg (by simp; omega)]
  have hbs:base32 ((shaL (k :: l)).take 10)=b32 ((shaL (k :: l)).take 10):=base32_ten _
  rw [← hbs]
  clear hbs
  go_enter Tryz.func202,Tryz.ntmps202
  go_wp2_with (first
   | (at_builtin; refine wpList_app _ rfl _ _ _ rfl w.heap.size 5 i0 _ 1 Tryz.underlying39 hi0 hz0 hz1 hz2 rfl _ _ _ rfl own1 _ (bs l) rfl (HV.out.alloc _) (bs_one l) (by rw [bs_length]; simp only [maxLen]; omega) (by rw [bs_length]; omega) (by simp) ?_; intro v1 w1 own2 gr1; have b1:Below w.heap.size w w1:=Below.row ((Below.refl _ _).alloc (Nat.le_refl _) _) (by simp) own1 gr1; have r1:Rd w1 v1 (bs (k :: l)):=(Own.of (own_cells own2 (bs_append [k] l).symm) (by simp [bs]; omega)).rd; have hsha:=implSha (k :: l) hB2 v1 w1 r1 (HT.out.step b1); rw [hsh] at hsha)
   | (go_at_call 222; (with_reducible refine hsha.mono ?_); rintro e w2 ⟨v2,rfl,o2,b2⟩; obtain ⟨A2,c2,rfl,hc3,hc4⟩:=own_slice o2.1; rw [bs_length,shaL_len] at *; obtain ⟨bb,off,rfl,hc5,hc6,r2⟩:=o2.rd.ten; unfold maxLen at hc6)
   | (go_at_call 223; (with_reducible refine (implBase32 ((shaL (k :: l)).take 10) (sha10_byt _) _ w2 r2).mono ?_); rintro e w3 ⟨v3,rfl,o3,b3⟩))
  go_ret
  have c2' : Below w.heap.size w w2:=b1.trans (b2.mono b1.size)
  exact ⟨_,rfl,o3.wide c2'.size (Nat.le_refl _) (Nat.le_refl _),c2'.trans (b3.mono c2'.size)⟩
end Go.Proofs.YtgaadpkefncnmaaGreatDoor
/-
  Chapter 4 in plain lists: objects, stores.
-/
namespace Go.Proofs.YtgaadpkefncnmaaGreatDoor
open Go.RowKit
set_option linter.unusedVariables false
/-- The place of the first object of that name; the number of objects: there is none. -/
def atO:List DObj→List Int→Nat
 | [],_=>0
 | o :: os,n=>if o.name=n then 0 else atO os n + 1
def atI (os:List DObj) (n:List Int):Int:=if atO os n < os.length then (atO os n:Int) else -1
theorem atO_found {os:List DObj} {n:List Int} {j:Nat} (h:j < os.length) (h0:∀ m (hm:m < j),(os[m]'(by omega)).name≠n) (h1:os[j].name=n):atO os n=j:=by
 induction os generalizing j with
 | nil=>simp at h
 | cons o os ih =>
   cases j with
   | zero=>rw [atO,if_pos (by simpa using h1)]
   | succ j =>
     have:=h0 0 (by omega)
     rw [atO,if_neg (by simpa using this)]
     rw [ih (j:=j) (by simpa using h) (fun m hm=>by have:=h0 (m + 1) (by omega); simpa using this) (by simpa using h1)]
theorem atO_none {os:List DObj} {n:List Int} (h0:∀ m (hm:m < os.length),(os[m]).name≠n):atO os n=os.length:=by
 induction os with
 | nil=>rfl
 | cons o os ih =>
   have:=h0 0 (by simp)
   rw [atO,if_neg (by simpa using this),ih (fun m hm=>by have:=h0 (m + 1) (by simpa using hm); simpa using this)]
   rfl
theorem atO_name {os:List DObj} {n:List Int} (h:atO os n < os.length):(os[atO os n]).name=n:=by
 induction os with
 | nil=>simp at h
 | cons o os ih =>
   by_cases ho:o.name=n
   ·have e:atO (o :: os) n=0:=by rw [atO,if_pos ho]
    simp only [e]
    exact ho
   ·have e:atO (o :: os) n=atO os n + 1:=by rw [atO,if_neg ho]
    simp only [e,List.getElem_cons_succ]
    exact ih (by rw [e] at h; simpa using h)
theorem atI_found {os:List DObj} {n:List Int} {j:Nat} (h:j < os.length) (h0:∀ m (hm:m < j),(os[m]'(by omega)).name≠n) (h1:os[j].name=n):atI os n=j:=by
 rw [atI,atO_found h h0 h1,if_pos h]
theorem atI_none {os:List DObj} {n:List Int} (h0:∀ m (hm:m < os.length),(os[m]).name≠n):atI os n = -1:=by
 rw [atI,atO_none h0,if_neg (Nat.lt_irrefl _)]
/-- The name that what an object is gives it. -/
def made (o:DObj):List Int:=if o.kind=0 then nameOf 116 o.tree.data else if o.kind=1 then nameOf 102 o.tree.enc else nameOf 111 (putText o.frm o.out)
def objOk (o:DObj):Bool :=
 decide (0≤o.kind∧o.kind≤2) && (treeOk o.tree && (ascP nameOk o.refs && (decide (o.refs.length≤24) &&
 ((if o.kind=2 then nameOk o.frm && entryOk o.out else decide (o.frm.length=0∧o.out.length=0)) &&
 (!(decide (o.kind=0) && !decide (o.tree.kind=0)) &&
 (o.refs.all (fun r=>contL o.tree.dat r) && decide (made o=o.name)))))))
def objBad1 (o:DObj):Bool:=!(decide (0≤o.kind∧o.kind≤2) && (treeOk o.tree && (ascP nameOk o.refs && decide (o.refs.length≤24))))
def objBad2 (o:DObj):Bool:=!((if o.kind=2 then nameOk o.frm && entryOk o.out else decide (o.frm.length=0∧o.out.length=0)) && !(decide (o.kind=0) && !decide (o.tree.kind=0)))
def objNames (os:List DObj):List (List Int):=os.map DObj.name
theorem objNames_len (os:List DObj):(objNames os).length=os.length:=List.length_map _
theorem objNames_next {os:List DObj} {j:Nat} (h:j < os.length):objNames (os.take (j + 1))=objNames (os.take j)++[os[j].name]:=by
 rw [objNames,List.take_succ_eq_append_getElem h,List.map_append]; rfl
/-- Texts, one cell each. -/
abbrev rawss (ns:List (List Int)):List Cel:=cells (fun n=>[raw n]) ns
theorem rawss_snoc (ns:List (List Int)) (n:List Int):rawss (ns++[n])=rawss ns++[raw n]:=by
 rw [rawss,cells_app]; rfl
end Go.Proofs.YtgaadpkefncnmaaGreatDoor
/-
  The name of an output: the program.
-/
namespace Go.Proofs.YtgaadpkefncnmaaGreatDoor
open Go.RowKit
set_option linter.unusedVariables false
def outNm (a b:List Int):List Int:=if nameOk a && entryOk b then nameOf 111 (putText a b) else []
theorem nmLen16 {l:List Int} (h:nameOk l=true):l.length=16:=by
 rw [nameOk,Bool.and_eq_true,decide_eq_true_eq] at h
 exact h.1
theorem enLen8 {l:List Int} (h:entryOk l=true):l.length≤8:=by
 rw [entryOk,Bool.and_eq_true,decide_eq_true_eq] at h
 omega
theorem putText_small {a b:List Int} (ha:a.length=16) (hb:b.length≤8):(putText a b).length≤90000:=by
 have:=putNum_len a b.length
 rw [putText]
 split
 ·omega
 ·rw [List.length_append]; omega
theorem outNm_some {a b:List Int} (ha:nameOk a=true) (hb:entryOk b=true):outNm a b=b32 ((shaL (111 :: putText a b)).take 10):=by
 have:=putText_small (nmLen16 ha) (enLen8 hb)
 rw [outNm,ha,hb,Bool.and_self,if_pos rfl,nameOf,if_neg (by omega)]
theorem outNm_pos {a b:List Int} (ha:nameOk a=true) (hb:entryOk b=true):(outNm a b).length=16:=by
 rw [outNm_some ha hb,b32_len,sha10_len]
set_option maxRecDepth 20000 in
set_option maxHeartbeats 800000 in
theorem implOutLow (a:List Int) (hA:Byt a) (va:Value) (b:List Int) (hB:Byt b) (vb:Value) (w:World) (h0:Rd w va (bs a)) (h1:Rd w vb (bs b)) (hla:a.length≤1048576) (hT:Tab w) :
  Calls Tryz.prog 201 #[va,vb] w fun e w'=>∃ A n c,e=.returned (.slice A n c)∧Hid (A.isSome=(nameOk a && entryOk b))∧Own 5 w.heap.size w'.heap.size w' (.slice A n c) (bs (outNm a b))∧Below w.heap.size w w':=by
 have HNO:=hide (implNameOk a hA va w h0 (by omega))
 have HEO:=hide (fun W (hb:Below w.heap.size w W)=>implEntryQ b hB vb W (h1.below hb))
 have HPT:=hide (fun W (hb:Below w.heap.size w W)=>implPutText a va b vb W (h0.below hb) (h1.below hb) (by omega))
 have hno:(nameOk a && entryOk b)=false→outNm a b = []:=fun h=>by rw [outNm,h]; rfl
 have hyes:nameOk a=true→entryOk b=true→outNm a b=nameOf 111 (putText a b)∧(outNm a b).length=16:=fun ha hb=>⟨by rw [outNm,ha,hb]; rfl,outNm_pos ha hb⟩
 have HNA:=hide (fun v W (h:Rd W v (bs (putText a b))) (hb:Below w.heap.size w W)=>implNameOf 111 (by omega) (putText a b) (putText_byt hA hB) v W h (hT.step hb))
 have HNONE:=hide hno
 have HYES:=hide hyes
 generalize hx:nameOk a=X at *
 generalize hy:entryOk b=Y at *
 clear h0 h1 hno hyes hx hy hT
 cases X <;> cases Y
 ·have HR:=hide (HNONE.out rfl)
  go_enter Tryz.func201,Tryz.ntmps201
  go_wp2_with (go_at_call 166; (with_reducible refine HNO.out.mono ?_); rintro e w1 ⟨rfl,b1⟩; have HB1:=hide b1; clear b1)
  go_ret
  exact ⟨_,_,_,rfl,hide rfl,by rw [HR.out]; exact Own.of (World.ownsRow_nil _ _ _ _) rfl,HB1.out⟩
 ·have HR:=hide (HNONE.out rfl)
  go_enter Tryz.func201,Tryz.ntmps201
  go_wp2_with (go_at_call 166; (with_reducible refine HNO.out.mono ?_); rintro e w1 ⟨rfl,b1⟩; have HB1:=hide b1; clear b1)
  go_ret
  exact ⟨_,_,_,rfl,hide rfl,by rw [HR.out]; exact Own.of (World.ownsRow_nil _ _ _ _) rfl,HB1.out⟩
 ·have HR:=hide (HNONE.out rfl)
  go_enter Tryz.func201,Tryz.ntmps201
  go_wp2_with (first
   | (go_at_call 166; (with_reducible refine HNO.out.mono ?_); rintro e w1 ⟨rfl,b1⟩; have HB1:=hide b1; clear b1)
   | (go_at_call 218; refine (HEO.out _ HB1.out).mono ?_; rintro e w' ⟨rfl,rfl⟩))
  go_ret
  exact ⟨_,_,_,rfl,hide rfl,by rw [HR.out]; exact Own.of (World.ownsRow_nil _ _ _ _) rfl,HB1.out⟩
 ·have HR:=hide (HYES.out (by trivial) (by trivial))
  go_enter Tryz.func201,Tryz.ntmps201
  go_wp2_with (first
   | (go_at_call 166; (with_reducible refine HNO.out.mono ?_); rintro e w1 ⟨rfl,b1⟩; have HB1:=hide b1; clear b1)
   | (go_at_call 218; refine (HEO.out _ HB1.out).mono ?_; rintro e w' ⟨rfl,rfl⟩)
   | (go_at_call 221; refine (HPT.out _ HB1.out).mono ?_; rintro e w2 ⟨v2,rfl,o2,b2⟩; have HB2:=hide (HB1.out.trans (b2.mono HB1.out.size)); have HRD:=hide o2.rd; clear o2 b2)
   | (go_at_call 202; refine (HNA.out _ _ HRD.out HB2.out).mono ?_; rintro e w3 ⟨v3,rfl,o3,b3⟩; have ho3:=o3; obtain ⟨A9,c9,rfl,-,-⟩:=own_slice ho3.1; have HO3:=hide (o3.wide HB2.out.size (Nat.le_refl _) (Nat.le_refl _)); have HB3:=hide (HB2.out.trans (b3.mono HB2.out.size)); clear o3 b3 ho3))
  go_ret
  have ho:=HO3.out
  obtain ⟨e1,e2⟩:=HR.out
  have hlen:0 < (bs (nameOf 111 (putText a b))).length:=by rw [bs_length,← e1,e2]; omega
  obtain ⟨g,hg,-,-⟩:=own_form ho.1 hlen
  exact ⟨_,_,_,rfl,hide (by rw [hg]; rfl),by rw [e1]; exact ho,HB3.out⟩
end Go.Proofs.YtgaadpkefncnmaaGreatDoor
/-
  The model's l4at: where a name's object is.
-/
namespace Go.Proofs.YtgaadpkefncnmaaGreatDoor
open Go.RowKit
set_option linter.unusedVariables false
theorem obj_byt {s:DStore} (hok:oks s.cells) {j:Nat} (hj:j < s.objs.length):oks (s.objs[j]).cells:=((DStore.oks_iff s).1 hok).1 _ (List.getElem_mem hj)
theorem objName_byt {s:DStore} (hok:oks s.cells) {j:Nat} (hj:j < s.objs.length):Byt (s.objs[j]).name:=((DObj.oks_iff _).1 (obj_byt hok hj)).1
set_option maxRecDepth 20000 in
set_option maxHeartbeats 800000 in
theorem specAt (s:DStore) (n:List Int) (hok:oks s.cells) (hn:Byt n) (hL:s.objs.length≤1048576) (us:List Value) (vn:Value) (w:World) (hs:Ins w s.cells us) (hv:In1 w (raw n) vn) :
  Calls Tryz.prog 76 #[.agg us.toArray,vn] w fun e w'=>e=.returned (.int .i64 (atI s.objs n))∧Below w.heap.size w w':=by
 obtain ⟨A0,c0,A1,c1,A2,c2,rfl,h0,h1,h2⟩:=DStore.view hs
 obtain ⟨N,hN⟩:∃ N,s.objs.length=N:=⟨_,rfl⟩
 rw [hN] at hL h0
 simp only [hN]
 obtain ⟨wa,hwa⟩:∃ wa,w.alloc (.cells #[.slice A0 N c0,.slice A1 s.roots.length c1,.slice A2 s.reals.length c2] 32)=wa:=⟨_,rfl⟩
 have ba:Below w.heap.size w wa:=by rw [← hwa]; exact (Below.refl _ _).alloc (Nat.le_refl _) _
 have bx:Box wa w.heap.size 32 [.slice A0 N c0,.slice A1 s.roots.length c1,.slice A2 s.reals.length c2]:=by rw [← hwa]; exact Box.new w _ _
 have hwz:w.heap.size < wa.heap.size:=bx.lt
 have HBX:=hide bx
 have HBA:=hide ba
 have HO:=hide hok
 have HNL:=hide hN
 have H0:=hide h0
 have HV:=hide hv
 clear bx ba hok h0 h1 h2 hs hv hN
 go_enter Tryz.func76,Tryz.ntmps76
 go_wp2
 go_loopw [5] (fun i wr=>∃ j:Nat,j≤N∧i=.int .i64 j∧Hid (∀ m (hm:m < j) (hm2:m < s.objs.length),(s.objs[m]).name≠n)∧Below wa.heap.size wa wr) (fun i _=>N - (intOf i).toNat)
 case atStart=>exact ⟨0,Nat.zero_le _,rfl,hide (fun m hm=>by omega),Below.refl _ _⟩
 case round =>
  obtain ⟨j,hj,rfl,HX,hbel⟩:=hrel
  have bxr:=HBX.out.step hbel
  have x0:=bxr.cell (j:=0) rfl
  have HB:=hide (HBA.out.trans (hbel.mono HBA.out.size))
  by_cases hlt:j < N
  ·have hjn:j < s.objs.length:=by rw [HNL.out]; exact hlt
   obtain ⟨b,off,c,B0,d0,B3,d3,B4,d4,B5,d5,B6,d6,B7,d7,B8,d8,-,e1,hbl,q0,-,-,-,-,-,-,-,-,i0,-⟩:=DObj.elem H0.out HB.out hjn
   obtain rfl:=e1 rfl
   have hBj:=objName_byt HO.out hjn
   have r1:∀ m,Rd (wr.drewN m) (.slice B0 (s.objs[j]).name.length d0) (bs (s.objs[j]).name):=fun m=>(i0.step HB.out).rd
   have r2:∀ m,Rd (wr.drewN m) vn (bs n):=fun m=>(HV.out.step HB.out).rd
   have cw1:=fun m=>conv_rd (P:=Tryz.prog) Tryz.underlying39 Tryz.underlying5 Tryz.underlying9 (r1 m)
   have cw2:=fun m=>conv_rd (P:=Tryz.prog) Tryz.underlying39 Tryz.underlying5 Tryz.underlying9 (r2 m)
   have cv1:=cw1 0
   have cv2:=cw2 0
   have heq:=str_eq hBj hn
   have k1:(j:Int) < (N:Int):=by omega
   have k0:(0:Int)≤(j:Int):=by omega
   have k2:(j:Int).toNat=j:=by omega
   have hf:=fun h=>atI_found (n:=n) hjn (fun m hm=>HX.out m hm (by omega)) h
   generalize strOfNums (s.objs[j]).name=s1 at *
   generalize strOfNums n=s2 at *
   generalize (s.objs[j]).name.length=ln at *
   have HB2:=hide hbel
   clear hbel bxr i0 r1 r2 hBj
   by_cases hat:(s.objs[j]).name=n
   ·rw [decide_eq_true hat] at heq
    have HF:=hide (hf hat)
    clear hf hat
    go_upto_region 4 with (fail)
    go_quiet (fail)
    go_wp2
    go_ret
    exact ⟨ret_i64 HF.out.symm,below_drewN HB.out _⟩
   ·rw [decide_eq_false hat] at heq
    have HAT:=hide hat
    clear hf hat
    go_upto_region 4 with (fail)
    go_quiet (fail)
    go_wp2
    go_roundw
    case rel=>exact ⟨j + 1,by omega,by go_num,hide (fun m hm hm2=>by
     rcases Nat.lt_or_ge m j with h | h
     ·exact HX.out m h hm2
     ·obtain rfl:m=j:=by omega
      exact HAT.out),below_drewN HB2.out _⟩
    case measure=>simp [intOf]; omega
  ·obtain rfl:j=N:=by omega
   have hr:atI s.objs n = -1:=atI_none (fun m hm=>HX.out m (by rw [← HNL.out]; exact hm) hm)
   have HR:=hide hr
   clear hbel hr
   go_wp2
   go_ret
   exact ⟨ret_i64 HR.out.symm,HB.out⟩
end Go.Proofs.YtgaadpkefncnmaaGreatDoor
/-
  The validity of an object, as the program decides it: the same.
-/
namespace Go.Proofs.YtgaadpkefncnmaaGreatDoor
open Go.RowKit
set_option linter.unusedVariables false
set_option linter.unusedSimpArgs false
theorem ltr_lidx:∀ k:Fin 32,lidx (ltr k.val)=k.val:=by decide +kernel
theorem b32_good (b:List Int):∀ x∈b32 b,0≤lidx x:=by
 intro x hx
 obtain ⟨y,hy,rfl⟩:=List.mem_map.1 hx
 have h1:=grp_lt b 0 y hy
 obtain ⟨k,rfl⟩:=Int.eq_ofNat_of_zero_le h1.1
 rw [ltr_lidx ⟨k,by omega⟩]
 exact h1.1
theorem nameOk_ten (x:List Int) (h:x.length=10):nameOk (b32 x)=true:=by
 have hl:(b32 x).length=16:=by rw [b32_len,h]
 rw [nameOk,hl,okFrom,List.drop_zero,List.all_eq_true.2 fun y hy=>decide_eq_true (b32_good x y hy)]
 rfl
theorem nameOf_ok (k:Int) (l:List Int) (h:l.length≤90000):nameOk (nameOf k l)=true:=by
 rw [nameOf,if_neg (by omega)]
 exact nameOk_ten _ (sha10_len _)
/-- The name that an object has, by what it is; [] if there is none. -/
def objNm (o:DObj):List Int :=
 if o.kind=2 then outNm o.frm o.out
 else if o.frm.length=0∧o.out.length=0 then (if o.kind=0∧o.tree.kind=0 then nameOf 116 o.tree.data else if o.kind=1 then nameOf 102 (encOf o.tree) else [])
 else []
def refsFit (o:DObj):Bool:=decide (o.refs.length≤24) && decide ((scanOf o.tree.dat o.refs).length=o.refs.length)
theorem scan_all (b:List Int) (ns:List (List Int)):(scanOf b ns).length=ns.length↔ascP nameOk ns=true∧ns.all (fun r=>contL b r)=true:=by
 unfold scanOf scanL
 split
 ·rename_i h
  rw [List.length_filter_eq_length_iff,List.all_eq_true]
  exact ⟨fun h1=>⟨h,h1⟩,fun h1=>h1.2⟩
 ·rename_i h
  constructor
  ·intro h1
   have:ns = []:=List.eq_nil_of_length_eq_zero h1.symm
   rw [this] at h
   exact absurd rfl h
  ·intro h1
   exact absurd h1.1 h
theorem nameOk_nil:nameOk []=false:=rfl
theorem objOk_prog (o:DObj):objOk o=(treeOk o.tree && (refsFit o && (nameOk o.name && decide (objNm o=o.name)))):=by
 rw [Bool.eq_iff_iff]
 unfold objOk refsFit
 simp only [Bool.and_eq_true,decide_eq_true_eq,Bool.not_eq_true',Bool.and_eq_false_iff,decide_eq_false_iff_not,Decidable.not_not,Bool.not_eq_false']
 rw [scan_all]
 constructor
 ·rintro ⟨hk,ht,hasc,hlen,hcond,hfile,hall,hmade⟩
  have hd:=treeOk_data ht
  have he:=treeOk_enc ht
  have hee:encOf o.tree=o.tree.enc:=by rw [encOf,if_pos ht]
  have hm:objNm o=made o∧nameOk (made o)=true:=by
   by_cases h2:o.kind=2
   ·rw [if_pos h2,Bool.and_eq_true] at hcond
    have e:made o=nameOf 111 (putText o.frm o.out):=by rw [made,if_neg (by omega),if_neg (by omega)]
    rw [e]
    refine ⟨by rw [objNm,if_pos h2,outNm,hcond.1,hcond.2]; rfl,nameOf_ok _ _ (putText_small (nmLen16 hcond.1) (enLen8 hcond.2))⟩
   ·rw [if_neg h2,decide_eq_true_eq] at hcond
    by_cases h0:o.kind=0
    ·have h00:o.tree.kind=0:=hfile.elim (fun h=>absurd h0 h) id
     have e:made o=nameOf 116 o.tree.data:=by rw [made,if_pos h0]
     rw [e]
     exact ⟨by rw [objNm,if_neg h2,if_pos hcond,if_pos ⟨h0,h00⟩],nameOf_ok _ _ (by omega)⟩
    ·have h1:o.kind=1:=by omega
     have e:made o=nameOf 102 o.tree.enc:=by rw [made,if_neg h0,if_pos h1]
     rw [e]
     exact ⟨by rw [objNm,if_neg h2,if_pos hcond,if_neg (by omega),if_pos h1,hee],nameOf_ok _ _ (by omega)⟩
  exact ⟨ht,⟨hlen,hasc,hall⟩,hmade ▸ hm.2,hm.1.trans hmade⟩
 ·rintro ⟨ht,⟨hlen,hasc,hall⟩,hn,hm⟩
  have hee:encOf o.tree=o.tree.enc:=by rw [encOf,if_pos ht]
  have hne:objNm o≠[]:=by
   intro h
   rw [← hm,h,nameOk_nil] at hn
   cases hn
  by_cases h2:o.kind=2
  ·have e:objNm o=outNm o.frm o.out:=by rw [objNm,if_pos h2]
   have hc:(nameOk o.frm && entryOk o.out)=true:=by
    cases hc:(nameOk o.frm && entryOk o.out)
    ·exact absurd (by rw [e,outNm,hc]; rfl) hne
    ·rfl
   have e2:made o=nameOf 111 (putText o.frm o.out):=by rw [made,if_neg (by omega),if_neg (by omega)]
   refine ⟨by omega,ht,hasc,hlen,by rw [if_pos h2]; exact hc,Or.inl (by omega),hall,?_⟩
   rw [← hm,e,e2,outNm,hc]; rfl
  ·by_cases hc:o.frm.length=0∧o.out.length=0
   ·by_cases h0:o.kind=0
    ·by_cases h00:o.tree.kind=0
     ·refine ⟨by omega,ht,hasc,hlen,by rw [if_neg h2]; exact decide_eq_true hc,Or.inr h00,hall,?_⟩
      rw [← hm,made,if_pos h0,objNm,if_neg h2,if_pos hc,if_pos ⟨h0,h00⟩]
     ·exact absurd (by rw [objNm,if_neg h2,if_pos hc,if_neg (fun h=>h00 h.2),if_neg (by omega)]) hne
    ·by_cases h1:o.kind=1
     ·refine ⟨by omega,ht,hasc,hlen,by rw [if_neg h2]; exact decide_eq_true hc,Or.inl h0,hall,?_⟩
      rw [← hm,made,if_neg h0,if_pos h1,objNm,if_neg h2,if_pos hc,if_neg (fun h=>h0 h.1),if_pos h1,hee]
     ·exact absurd (by rw [objNm,if_neg h2,if_pos hc,if_neg (fun h=>h0 h.1),if_neg h1]) hne
   ·exact absurd (by rw [objNm,if_neg h2,if_neg hc]) hne
end Go.Proofs.YtgaadpkefncnmaaGreatDoor
/-
  The model's l4made: the name that an object's contents give it.
-/
namespace Go.Proofs.YtgaadpkefncnmaaGreatDoor
open Go.RowKit
set_option linter.unusedVariables false
set_option linter.unusedSimpArgs false
theorem obj_tree {w:World} {o:DObj} {v1 v2 v3:Value} (h1:In1 w (raw o.tree.data) v1) (h2:In1 w (names o.tree.names) v2) (h3:In1 w (seqOf 4 T.cells o.tree.kids) v3):TIn w o.tree ⟨o.tree.kind,v1,v2,v3⟩:=T.tin_of (T.lay h1 h2 h3)
set_option maxRecDepth 20000 in
set_option maxHeartbeats 1600000 in
theorem specMade (o:DObj) (hok:oks o.cells) (ht:treeOk o.tree=true) (hf:o.frm.length≤1000) (ho:o.out.length≤1000) (us:List Value) (w:World) (hs:Ins w o.cells us) :
  Calls Tryz.prog 162 #[.agg us.toArray] w fun e w'=>∃ v',e=.returned v'∧Own 5 w.heap.size w'.heap.size w' v' (bs (made o))∧Below w.heap.size w w':=by
 obtain ⟨A0,c0,A3,c3,A4,c4,A5,c5,A6,c6,A7,c7,A8,c8,rfl,h0,h3,h4,h5,h6,h7,h8⟩:=DObj.view hs
 obtain ⟨wa,hwa⟩:∃ wa,w.alloc (.cells #[.slice A0 o.name.length c0,.int .i64 o.kind,.int .i64 o.tree.kind,.slice A3 o.tree.data.length c3,.slice A4 o.tree.names.length c4,.slice A5 o.tree.kids.length c5,.slice A6 o.refs.length c6,.slice A7 o.frm.length c7,.slice A8 o.out.length c8] 49)=wa:=⟨_,rfl⟩
 have ba:Below w.heap.size w wa:=by rw [← hwa]; exact (Below.refl _ _).alloc (Nat.le_refl _) _
 have bx:Box wa w.heap.size 49 [.slice A0 o.name.length c0,.int .i64 o.kind,.int .i64 o.tree.kind,.slice A3 o.tree.data.length c3,.slice A4 o.tree.names.length c4,.slice A5 o.tree.kids.length c5,.slice A6 o.refs.length c6,.slice A7 o.frm.length c7,.slice A8 o.out.length c8]:=by rw [← hwa]; exact Box.new w _ _
 have hz:w.heap.size < wa.heap.size:=bx.lt
 obtain ⟨hb0,hkr,htr,hb6,hb7,hb8⟩:=(DObj.oks_iff o).1 hok
 have hT:=(obj_tree h3 h4 h5).below ba
 have hby:=T.byts_of _ htr
 have hD:=(h3.step ba).rd
 have hF:=(h7.step ba).rd
 have hO:=(h8.step ba).rd
 have x1:=bx.cell (j:=1) rfl
 have x3:=bx.cell (j:=3) rfl
 have hel:=treeOk_enc ht
 have hdl:=treeOk_data ht
 have heb:=T.enc_byt o.tree (treeOk_at ht).1 hby
 have HBX:=hide bx
 have HBA:=hide ba
 by_cases hk0:o.kind=0
 ·have hm:made o=nameOf 116 o.tree.data:=by rw [made,if_pos hk0]
  have hd2:made o=b32 ((shaL (116 :: o.tree.data)).take 10):=by rw [hm,nameOf,if_neg (by omega)]
  have hc:=specName 116 (by omega) o.tree.data ((T.oks_iff _).1 htr).2.1 (.slice A3 o.tree.data.length c3) wa hD (by omega)
  rw [← hd2] at hc
  have HC:=hide hc
  have e0:(o.kind == 0)=true:=by simp [hk0]
  clear bx ba hs h0 h3 h4 h5 h6 h7 h8 hT hD hF hO hm hd2 hc hok hby heb
  rw [hk0] at x1 hwa
  go_enter Tryz.func162,Tryz.ntmps162
  go_wp2_with fail
  refine HC.out.mono ?_
  rintro e w1 ⟨v1,rfl,o1,b1⟩
  have HB1:=hide (HBA.out.trans (b1.mono HBA.out.size))
  have HO1:=hide (o1.wide (Nat.le_of_lt hz) (Nat.le_refl _) (Nat.le_refl _))
  clear o1 b1
  go_wp2_with fail
  go_ret
  exact ⟨_,rfl,HO1.out,HB1.out⟩
 ·by_cases hk1:o.kind=1
  ·have hm:made o=nameOf 102 o.tree.enc:=by rw [made,if_neg hk0,if_pos hk1]
   have hd2:made o=b32 ((shaL (102 :: o.tree.enc)).take 10):=by rw [hm,nameOf,if_neg (by omega)]
   have hc1:=specEnc o.tree 1 (treeOk_at ht).1 [] (.slice none 0 0) _ wa.heap.size wa wa (World.ownsRow_nil _ _ _ _) rfl (Below.refl _ _) hT (by simp; omega)
   have x2:=bx.cell (j:=2) rfl
   have x4:=bx.cell (j:=4) rfl
   have x5:=bx.cell (j:=5) rfl
   have hc:=fun v W (h:Rd W v (bs o.tree.enc))=>specName 102 (by omega) o.tree.enc heb v W h (by omega)
   rw [← hd2] at hc
   rw [List.nil_append] at hc1
   have HC:=hide hc
   have HC1:=hide hc1
   clear bx ba hs h0 h3 h4 h5 h6 h7 h8 hT hD hF hO hm hd2 hc hok hby heb hc1
   rw [hk1] at x1 hwa
   go_enter Tryz.func162,Tryz.ntmps162
   go_wp2_with fail
   refine HC1.out.mono ?_
   rintro e w1 ⟨v1,rfl,o1,b1⟩
   have r1:=own_rd o1
   have b1':=b1.below
   go_wp2_with fail
   refine (HC.out v1 w1 r1).mono ?_
   rintro e w2 ⟨v2,rfl,o2,b2⟩
   have HB2:=hide (HBA.out.trans ((b1'.trans (b2.mono b1'.size)).mono HBA.out.size))
   have HO2:=hide (o2.wide (Nat.le_trans (Nat.le_of_lt hz) b1'.size) (Nat.le_refl _) (Nat.le_refl _))
   clear o1 b1 o2 b2 r1 b1'
   go_wp2_with fail
   go_ret
   exact ⟨_,rfl,HO2.out,HB2.out⟩
  ·have hm:made o=nameOf 111 (putText o.frm o.out):=by rw [made,if_neg hk0,if_neg hk1]
   have hpl:(putText o.frm o.out).length≤90000:=by
    have:=putNum_len o.frm o.out.length
    rw [putText]
    split
    ·omega
    ·rw [List.length_append]; omega
   have hd2:made o=b32 ((shaL (111 :: putText o.frm o.out)).take 10):=by rw [hm,nameOf,if_neg (by omega)]
   have hc:=fun v W (h:Rd W v (bs (putText o.frm o.out)))=>specName 111 (by omega) _ (putText_byt hb7 hb8) v W h hpl
   have hc1:=fun v W (h:Rd W v (bs o.frm)) (hb:Below wa.heap.size wa W)=>specPutText o.frm v o.out _ W h (hO.below hb) (by omega)
   rw [← hd2] at hc
   have x7:=bx.cell (j:=7) rfl
   have x8:=bx.cell (j:=8) rfl
   have HX8:=hide (fun W (hb:Below wa.heap.size wa W)=>(bx.step hb).cell (j:=8) rfl)
   have HC:=hide hc
   have HC1:=hide hc1
   have HFB:=hide (fun W (hb:Below wa.heap.size wa W)=>(hF.below hb).rdcT)
   have e0:(o.kind == 0)=false:=by simp [hk0]
   have e1:(o.kind == 1)=false:=by simp [hk1]
   clear bx ba hs h0 h3 h4 h5 h6 h7 h8 hT hD hF hO hm hd2 hc hok hby heb hc1
   go_enter Tryz.func162,Tryz.ntmps162
   go_upto_region 6 with (fail)
   go_region_law (first
    | (refine step_rowapp rfl rfl (Row.lit0D _ _ _ (by decide)) (HFB.out _ (belNewD _ _)) (lies_nums _ _ _) (far0 _) rfl rfl Tryz.underlying39 inf_u8 rfl (by decide) (by decide) ?_ (lowNewD _ _) ?_; omega; intro v1 w1 R1 B1 g1; have r1:=R1.clone.raw; have b1:=(belNewD wa (.cells #[] 5)).trans B1; have x81:=HX8.out w1 b1; clear R1 g1 B1)
    | (go_simp; go_at_call 186; refine (HC1.out v1 w1 r1 b1).mono ?_; rintro e w2 ⟨v2,rfl,o2,b2⟩; have r2:=o2.rd)
    | (go_simp; go_at_call 147; refine (HC.out v2 w2 r2).mono ?_; rintro e w3 ⟨v3,rfl,o3,b3⟩))
   all_goals
    have HB3:=hide (HBA.out.trans ((b1.trans ((b2.trans (b3.mono b2.size)).mono b1.size)).mono HBA.out.size))
    have HO3:=hide (o3.wide (Nat.le_trans (Nat.le_of_lt hz) (Nat.le_trans b1.size b2.size)) (Nat.le_refl _) (Nat.le_refl _))
    clear b1 b2 b3 o2 o3 r1 r2
    go_wp2
    go_ret
    exact ⟨_,rfl,HO3.out,HB3.out⟩
end Go.Proofs.YtgaadpkefncnmaaGreatDoor
/-
  The program's objName.
-/
namespace Go.Proofs.YtgaadpkefncnmaaGreatDoor
open Go.RowKit
set_option linter.unusedVariables false
set_option linter.unusedSimpArgs false
set_option maxRecDepth 20000 in
set_option maxHeartbeats 1600000 in
theorem implObjNm (o:DObj) (hok:oks o.cells) (hbk:bulks o.cells≤1048576) (ht:treeOk o.tree=true) (us:List Value) (w:World) (hs:Ins w o.cells us) (hTb:Tab w) :
  Calls Tryz.prog 167 #[.agg us.toArray] w fun e w'=>∃ v',e=.returned v'∧Own 5 w.heap.size w'.heap.size w' v' (bs (objNm o))∧Below w.heap.size w w':=by
 have htk:=ht
 obtain ⟨A0,c0,A3,c3,A4,c4,A5,c5,A6,c6,A7,c7,A8,c8,rfl,h0,h3,h4,h5,h6,h7,h8⟩:=DObj.view hs
 obtain ⟨wa,hwa⟩:∃ wa,w.alloc (.cells #[.slice A0 o.name.length c0,.int .i64 o.kind,.int .i64 o.tree.kind,.slice A3 o.tree.data.length c3,.slice A4 o.tree.names.length c4,.slice A5 o.tree.kids.length c5,.slice A6 o.refs.length c6,.slice A7 o.frm.length c7,.slice A8 o.out.length c8] 49)=wa:=⟨_,rfl⟩
 have ba:Below w.heap.size w wa:=by rw [← hwa]; exact (Below.refl _ _).alloc (Nat.le_refl _) _
 have bx:Box wa w.heap.size 49 [.slice A0 o.name.length c0,.int .i64 o.kind,.int .i64 o.tree.kind,.slice A3 o.tree.data.length c3,.slice A4 o.tree.names.length c4,.slice A5 o.tree.kids.length c5,.slice A6 o.refs.length c6,.slice A7 o.frm.length c7,.slice A8 o.out.length c8]:=by rw [← hwa]; exact Box.new w _ _
 have hz:w.heap.size < wa.heap.size:=bx.lt
 obtain ⟨hb0,hkr,htr,hb6,hb7,hb8⟩:=(DObj.oks_iff o).1 hok
 have hbk2:=bulk_Obj o
 have hby:=T.byts_of _ htr
 have hT:=(obj_tree h3 h4 h5).below ba
 have hD:=(h3.step ba).rd
 have hF:=(h7.step ba).rd
 have hO:=(h8.step ba).rd
 have x0:=bx.cell (j:=0) rfl
 have x1:=bx.cell (j:=1) rfl
 have x2:=bx.cell (j:=2) rfl
 have x3:=bx.cell (j:=3) rfl
 have x4:=bx.cell (j:=4) rfl
 have x5:=bx.cell (j:=5) rfl
 have x6:=bx.cell (j:=6) rfl
 have x7:=bx.cell (j:=7) rfl
 have x8:=bx.cell (j:=8) rfl
 have HBX:=hide (fun W (hb:Below wa.heap.size wa W)=>bx.step hb)
 have HBA:=hide ba
 have hTa:Tab wa:=hTb.step ba
 have hel:=treeOk_enc ht
 have hdl:=treeOk_data ht
 have htb:=treeOk_bulk ht
 by_cases hk2:o.kind=2
 ·have e:objNm o=outNm o.frm o.out:=by rw [objNm,if_pos hk2]
  have hc:=implOutLow o.frm hb7 _ o.out hb8 _ wa hF hO (by omega) hTa
  rw [← e] at hc
  have HC:=hide hc
  clear e hc hTa
  clear bx ba hs h0 h3 h4 h5 h6 h7 h8 hT hD hF hO hok hby hTb hbk hbk2 hkr htr hb0 hb6 hb7 hb8
  rw [hk2] at x1 hwa
  go_enter Tryz.func167,Tryz.ntmps167
  go_wp2_with fail
  refine HC.out.mono ?_
  rintro e w1 ⟨A,n,c,rfl,-,o1,b1⟩
  have HB1:=hide (HBA.out.trans (b1.mono HBA.out.size))
  have HO1:=hide (o1.wide (Nat.le_of_lt hz) (Nat.le_refl _) (Nat.le_refl _))
  clear o1 b1
  go_wp2_with fail
  go_ret
  exact ⟨_,rfl,HO1.out,HB1.out⟩
 ·have e2:(o.kind == 2)=false:=by simp [hk2]
  by_cases hfo:o.frm.length=0∧o.out.length=0
  ·obtain ⟨hf0,ho0⟩:=hfo
   by_cases hk0:o.kind=0∧o.tree.kind=0
   ·have e:objNm o=nameOf 116 o.tree.data:=by rw [objNm,if_neg hk2,if_pos ⟨hf0,ho0⟩,if_pos hk0]
    have hc:=implNameOf 116 (by omega) o.tree.data ((T.oks_iff _).1 htr).2.1 (.slice A3 o.tree.data.length c3) wa hD hTa
    rw [← e] at hc
    have HC:=hide hc
    clear e hc hTa
    clear bx ba hs h0 h3 h4 h5 h6 h7 h8 hT hD hF hO hok hby hTb hbk hbk2 hkr htr hb0 hb6 hb7 hb8
    obtain ⟨hka,hkb⟩:=hk0
    rw [hka] at x1 hwa e2
    rw [hkb] at x2 hwa
    rw [hf0] at x7 hwa
    rw [ho0] at x8 hwa
    go_enter Tryz.func167,Tryz.ntmps167
    go_wp2_with fail
    refine HC.out.mono ?_
    rintro e w1 ⟨v1,rfl,o1,b1⟩
    have HB1:=hide (HBA.out.trans (b1.mono HBA.out.size))
    have HO1:=hide (o1.wide (Nat.le_of_lt hz) (Nat.le_refl _) (Nat.le_refl _))
    clear o1 b1
    go_wp2_with fail
    go_ret
    exact ⟨_,rfl,HO1.out,HB1.out⟩
   ·by_cases hk1:o.kind=1
    ·have e:objNm o=nameOf 102 (encOf o.tree):=by rw [objNm,if_neg hk2,if_pos ⟨hf0,ho0⟩,if_neg hk0,if_pos hk1]
     have hc1:=implTreeBytes o.tree hby (by omega) _ wa hT
     have heb:Byt (encOf o.tree):=by rw [encOf,if_pos ht]; exact T.enc_byt o.tree (treeOk_at ht).1 hby
     have hc:=fun v W (h:Rd W v (bs (encOf o.tree))) (hb:Below wa.heap.size wa W)=>implNameOf 102 (by omega) (encOf o.tree) heb v W h (hTa.step hb)
     rw [← e] at hc
     have HC:=hide hc
     have HC1:=hide hc1
     clear e hc hc1 hTa heb
     clear bx ba hs h0 h3 h4 h5 h6 h7 h8 hT hD hF hO hok hby hTb hbk hbk2 hkr htr hb0 hb6 hb7 hb8
     rw [hk1] at x1 hwa e2
     rw [hf0] at x7 hwa
     rw [ho0] at x8 hwa
     go_enter Tryz.func167,Tryz.ntmps167
     go_wp2_with fail
     refine HC1.out.mono ?_
     rintro e w1 ⟨v1,rfl,o1,b1⟩
     have r1:=o1.rd
     have HB0:=hide b1
     have hco:=HC.out v1 w1 r1 b1
     clear b1 o1
     go_wp2_with fail
     refine hco.mono ?_
     rintro e w2 ⟨v2,rfl,o2,b2⟩
     have HB2:=hide (HBA.out.trans ((HB0.out.trans (b2.mono HB0.out.size)).mono HBA.out.size))
     have HO2:=hide (o2.wide (Nat.le_trans (Nat.le_of_lt hz) HB0.out.size) (Nat.le_refl _) (Nat.le_refl _))
     clear o2 b2 r1 hco
     go_wp2_with fail
     go_ret
     exact ⟨_,rfl,HO2.out,HB2.out⟩
    ·have e:objNm o = []:=by rw [objNm,if_neg hk2,if_pos ⟨hf0,ho0⟩,if_neg hk0,if_neg hk1]
     have HE:=hide e
     have e1:(o.kind == 1)=false:=by simp [hk1]
     clear e hTa
     clear bx ba hs h0 h3 h4 h5 h6 h7 h8 hT hD hF hO hok hby hTb hbk hbk2 hkr htr hb0 hb6 hb7 hb8
     rw [hf0] at x7 hwa
     rw [ho0] at x8 hwa
     by_cases hka:o.kind=0
     ·have hkb:(o.tree.kind == 0)=false:=by simp; exact fun h=>hk0 ⟨hka,h⟩
      rw [hka] at x1 hwa e2 e1
      go_enter Tryz.func167,Tryz.ntmps167
      go_wp2_with fail
      go_ret
      exact ⟨_,rfl,by rw [HE.out]; exact Own.of (World.ownsRow_nil _ _ _ _) rfl,HBA.out⟩
     ·have hka2:(o.kind == 0)=false:=by simp [hka]
      go_enter Tryz.func167,Tryz.ntmps167
      go_wp2_with fail
      go_ret
      exact ⟨_,rfl,by rw [HE.out]; exact Own.of (World.ownsRow_nil _ _ _ _) rfl,HBA.out⟩
  ·have e:objNm o = []:=by rw [objNm,if_neg hk2,if_neg hfo]
   have HE:=hide e
   clear e hTa
   clear bx ba hs h0 h3 h4 h5 h6 h7 h8 hT hD hF hO hok hby hTb hbk hbk2 hkr htr hb0 hb6 hb7 hb8
   by_cases hf0:o.frm.length=0
   ·have ho1:0 < o.out.length:=by omega
    have ho2:(0:Int) < (o.out.length:Int):=by omega
    rw [hf0] at x7 hwa
    go_enter Tryz.func167,Tryz.ntmps167
    go_wp2_with fail
    go_ret
    exact ⟨_,rfl,by rw [HE.out]; exact Own.of (World.ownsRow_nil _ _ _ _) rfl,HBA.out⟩
   ·have ho1:0 < o.frm.length:=by omega
    have ho2:(0:Int) < (o.frm.length:Int):=by omega
    go_enter Tryz.func167,Tryz.ntmps167
    go_wp2_with fail
    go_ret
    exact ⟨_,rfl,by rw [HE.out]; exact Own.of (World.ownsRow_nil _ _ _ _) rfl,HBA.out⟩
end Go.Proofs.YtgaadpkefncnmaaGreatDoor
/-
  The program's objRefsOk.
-/
namespace Go.Proofs.YtgaadpkefncnmaaGreatDoor
open Go.RowKit
set_option linter.unusedVariables false
set_option linter.unusedSimpArgs false
set_option maxRecDepth 20000 in
set_option maxHeartbeats 1600000 in
theorem implRefsFit (o:DObj) (hok:oks o.cells) (hbk:bulks o.cells≤1048576) (ht:treeOk o.tree=true) (us:List Value) (w:World) (hs:Ins w o.cells us) :
  Calls Tryz.prog 165 #[.agg us.toArray] w fun e w'=>e=.returned (.bool (refsFit o))∧Below w.heap.size w w':=by
 obtain ⟨A0,c0,A3,c3,A4,c4,A5,c5,A6,c6,A7,c7,A8,c8,rfl,h0,h3,h4,h5,h6,h7,h8⟩:=DObj.view hs
 obtain ⟨wa,hwa⟩:∃ wa,w.alloc (.cells #[.slice A0 o.name.length c0,.int .i64 o.kind,.int .i64 o.tree.kind,.slice A3 o.tree.data.length c3,.slice A4 o.tree.names.length c4,.slice A5 o.tree.kids.length c5,.slice A6 o.refs.length c6,.slice A7 o.frm.length c7,.slice A8 o.out.length c8] 49)=wa:=⟨_,rfl⟩
 have ba:Below w.heap.size w wa:=by rw [← hwa]; exact (Below.refl _ _).alloc (Nat.le_refl _) _
 have bx:Box wa w.heap.size 49 [.slice A0 o.name.length c0,.int .i64 o.kind,.int .i64 o.tree.kind,.slice A3 o.tree.data.length c3,.slice A4 o.tree.names.length c4,.slice A5 o.tree.kids.length c5,.slice A6 o.refs.length c6,.slice A7 o.frm.length c7,.slice A8 o.out.length c8]:=by rw [← hwa]; exact Box.new w _ _
 have hz:w.heap.size < wa.heap.size:=bx.lt
 obtain ⟨hb0,hkr,htr,hb6,hb7,hb8⟩:=(DObj.oks_iff o).1 hok
 have hbk2:=bulk_Obj o
 have hby:=T.byts_of _ htr
 have hT:=(obj_tree h3 h4 h5).below ba
 have hD:=(h3.step ba).rd
 have hF:=(h7.step ba).rd
 have hO:=(h8.step ba).rd
 have x0:=bx.cell (j:=0) rfl
 have x1:=bx.cell (j:=1) rfl
 have x2:=bx.cell (j:=2) rfl
 have x3:=bx.cell (j:=3) rfl
 have x4:=bx.cell (j:=4) rfl
 have x5:=bx.cell (j:=5) rfl
 have x6:=bx.cell (j:=6) rfl
 have x7:=bx.cell (j:=7) rfl
 have x8:=bx.cell (j:=8) rfl
 have HBX:=hide (fun W (hb:Below wa.heap.size wa W)=>bx.step hb)
 have HBA:=hide ba
 have htb:=treeOk_bulk ht
 have hdt:=treeOk_dat ht
 have hde:datOf o.tree=o.tree.dat:=by rw [datOf,if_pos ht]
 have hc1:=fun W (hb:Below wa.heap.size wa W)=>implTreeData o.tree hby (by omega) _ W (hT.below hb)
 rw [hde] at hc1
 have hdb:=T.dat_byt o.tree hby
 have hN6:=(h6.step ba).rdN
 have hl6:∀ n∈o.refs,n.length≤1048576:=fun n hn=>by have:=sumLen_mem2 hn; omega
 have hc2:=fun v W (h:Rd W v (bs o.tree.dat)) (hb:Below wa.heap.size wa W)=>implScan o.tree.dat o.refs hdb hb6 v _ W h (hN6.below hb) (by omega) (by omega) hl6
 have HC1:=hide hc1
 have HC2:=hide hc2
 have HDF:=hide (show refsFit o=(decide (o.refs.length≤24) && decide ((scanOf o.tree.dat o.refs).length=o.refs.length)) from rfl)
 have hsl:(scanOf o.tree.dat o.refs).length≤o.refs.length:=by
  unfold scanOf scanL
  split
  ·exact List.length_filter_le _ _
  ·exact Nat.zero_le _
 have HSL:=hide hsl
 have HSS:Hid (∀ W,Below wa.heap.size wa W→(fun W:World=>W.cell? ⟨w.heap.size,0,none⟩=some (.slice A0 o.name.length c0)∧W.cell? ⟨w.heap.size,1,none⟩=some (.int .i64 o.kind)∧W.cell? ⟨w.heap.size,2,none⟩=some (.int .i64 o.tree.kind)∧W.cell? ⟨w.heap.size,3,none⟩=some (.slice A3 o.tree.data.length c3)∧W.cell? ⟨w.heap.size,4,none⟩=some (.slice A4 o.tree.names.length c4)∧W.cell? ⟨w.heap.size,5,none⟩=some (.slice A5 o.tree.kids.length c5)∧W.cell? ⟨w.heap.size,6,none⟩=some (.slice A6 o.refs.length c6)∧W.cell? ⟨w.heap.size,7,none⟩=some (.slice A7 o.frm.length c7)∧W.cell? ⟨w.heap.size,8,none⟩=some (.slice A8 o.out.length c8)) W):=hide (fun W hb=>⟨(HBX.out W hb).cell (j:=0) rfl,(HBX.out W hb).cell (j:=1) rfl,(HBX.out W hb).cell (j:=2) rfl,(HBX.out W hb).cell (j:=3) rfl,(HBX.out W hb).cell (j:=4) rfl,(HBX.out W hb).cell (j:=5) rfl,(HBX.out W hb).cell (j:=6) rfl,(HBX.out W hb).cell (j:=7) rfl,(HBX.out W hb).cell (j:=8) rfl⟩)
 clear bx ba hs h0 h3 h4 h5 h6 h7 h8 hT hD hF hO hok hby hbk hbk2 hkr htr hb0 hb6 hb7 hb8 hc1 hc2 hdb hN6 hl6 hde hdt htb hsl
 by_cases hl:o.refs.length≤24
 ·have hl2:(o.refs.length:Int)≤24:=by omega
  have HR:=hide (show refsFit o=decide ((scanOf o.tree.dat o.refs).length=o.refs.length) by rw [HDF.out,decide_eq_true hl]; rfl)
  have HBD:=hide (show Below wa.heap.size wa wa.drew from (Below.refl _ _).drew)
  generalize scanOf o.tree.dat o.refs=Z at *
  generalize hNN:o.refs.length=NN at *
  have hund:undef=Value.tuple #[]:=rfl
  go_enter Tryz.func165,Tryz.ntmps165
  go_upto_region 1 with (fail)
  first
   | go_region_held3 (fun W:World=>W.cell? ⟨w.heap.size,0,none⟩=some (.slice A0 o.name.length c0)∧W.cell? ⟨w.heap.size,1,none⟩=some (.int .i64 o.kind)∧W.cell? ⟨w.heap.size,2,none⟩=some (.int .i64 o.tree.kind)∧W.cell? ⟨w.heap.size,3,none⟩=some (.slice A3 o.tree.data.length c3)∧W.cell? ⟨w.heap.size,4,none⟩=some (.slice A4 o.tree.names.length c4)∧W.cell? ⟨w.heap.size,5,none⟩=some (.slice A5 o.tree.kids.length c5)∧W.cell? ⟨w.heap.size,6,none⟩=some (.slice A6 NN c6)∧W.cell? ⟨w.heap.size,7,none⟩=some (.slice A7 o.frm.length c7)∧W.cell? ⟨w.heap.size,8,none⟩=some (.slice A8 o.out.length c8))
     (first
      | exact HSS.out _ HB2.out
      | exact HSS.out _ HB1.out
      | exact HSS.out _ HBD.out
      | go_keep)
     (first
      | (go_simp; go_at_call 199; refine (HC1.out _ HBD.out).mono ?_; rintro e w1 ⟨v1,rfl,o1,b1⟩; have HB1:=hide (HBD.out.trans (b1.mono HBD.out.size)); have r1:=o1.rd; clear o1 b1)
      | (go_simp; go_at_call 198; refine (HC2.out _ _ r1 HB1.out).mono ?_; rintro e w2 ⟨v2,rfl,o2,b2⟩; have HB2:=hide (HB1.out.trans (b2.mono HB1.out.size)); obtain ⟨A2,c2,hu2,hx2,hy2⟩:=names_len o2.rd; subst hu2; clear b2 o2))
   | fail "region"
  all_goals
   have hzz:(((Z.length:Nat):Int) == ((NN:Nat):Int))=decide (Z.length=NN):=by
    by_cases h:Z.length=NN
    ·rw [decide_eq_true h,h]; simp
    ·rw [decide_eq_false h]; simp; omega
   go_wp2
   go_ret
   exact ⟨ret_bool (HR.out.trans (by rw [← hzz])).symm,HBA.out.trans (HB2.out.mono HBA.out.size)⟩
 ·have hl2:¬ (o.refs.length:Int)≤24:=by omega
  have HR:=hide (show refsFit o=false by rw [HDF.out,decide_eq_false hl]; rfl)
  go_enter Tryz.func165,Tryz.ntmps165
  go_upto_region 1 with (fail)
  have hund:undef=Value.tuple #[]:=rfl
  refine wp_region_any (by kernel_rfl) ?_
  try (change wpAny _ _ _ _ _ _ _ (World.drew _))
  refine wpAny_take (i:=0) (v:=.pointer (some ⟨w.heap.size,6,none⟩)) rfl (by kernel_rfl) (by kernel_rfl) (by kernel_rfl) (fun _ _ _ h=>h) (Or.inl ⟨by kernel_rfl,by intro w; go_simp⟩) ?_
  go_simp
  refine wpAny_ready (rs:=[1]) (by kernel_rfl) (by simp) ?_
  refine AllReady.cons rfl (fun K hK=>?_) AllReady.nil
  go_simp
  refine hK _ _ ?_
  clear hK K
  refine wpAny_take (i:=2) (v:=.int .i64 (o.refs.length:Int)) rfl (by kernel_rfl) (by kernel_rfl) (by kernel_rfl) (fun _ _ _ h=>h) (Or.inl ⟨by kernel_rfl,by intro w; go_simp⟩) ?_
  go_simp
  refine wpAny_take (i:=3) (v:=.bool false) rfl (by kernel_rfl) (by kernel_rfl) (by kernel_rfl) (fun _ _ _ h=>h) (Or.inl ⟨by kernel_rfl,by intro w; go_simp⟩) ?_
  go_simp
  refine wpAny_take (i:=4) (v:=.bool false) rfl (by kernel_rfl) (by kernel_rfl) (by kernel_rfl) (fun _ _ _ h=>h) (Or.inl ⟨by kernel_rfl,by intro w; go_simp⟩) ?_
  go_simp
  refine wpAny_take (i:=5) (v:=undef) rfl (by kernel_rfl) (by kernel_rfl) (by kernel_rfl) (fun _ _ _ h=>h) (Or.inr ⟨by kernel_rfl,rfl⟩) ?_
  go_simp
  refine wpAny_take (i:=6) (v:=undef) rfl (by kernel_rfl) (by kernel_rfl) (by kernel_rfl) (fun _ _ _ h=>h) (Or.inr ⟨by kernel_rfl,rfl⟩) ?_
  go_simp
  refine wpAny_take (i:=7) (v:=undef) rfl (by kernel_rfl) (by kernel_rfl) (by kernel_rfl) (fun _ _ _ h=>h) (Or.inr ⟨by kernel_rfl,rfl⟩) ?_
  go_simp
  refine wpAny_take (i:=8) (v:=undef) rfl (by kernel_rfl) (by kernel_rfl) (by kernel_rfl) (fun _ _ _ h=>h) (Or.inr ⟨by kernel_rfl,rfl⟩) ?_
  go_simp
  refine wpAny_take (i:=9) (v:=undef) rfl (by kernel_rfl) (by kernel_rfl) (by kernel_rfl) (fun _ _ _ h=>h) (Or.inr ⟨by kernel_rfl,rfl⟩) ?_
  go_simp
  refine wpAny_take (i:=10) (v:=undef) rfl (by kernel_rfl) (by kernel_rfl) (by kernel_rfl) (fun _ _ _ h=>h) (Or.inr ⟨by kernel_rfl,rfl⟩) ?_
  go_simp
  refine wpAny_take (i:=11) (v:=undef) rfl (by kernel_rfl) (by kernel_rfl) (by kernel_rfl) (fun _ _ _ h=>h) (Or.inr ⟨by kernel_rfl,rfl⟩) ?_
  go_simp
  refine wpAny_take (i:=12) (v:=undef) rfl (by kernel_rfl) (by kernel_rfl) (by kernel_rfl) (fun _ _ _ h=>h) (Or.inr ⟨by kernel_rfl,rfl⟩) ?_
  go_simp
  refine wpAny_take (i:=13) (v:=undef) rfl (by kernel_rfl) (by kernel_rfl) (by kernel_rfl) (fun _ _ _ h=>h) (Or.inr ⟨by kernel_rfl,rfl⟩) ?_
  go_simp
  refine wpAny_take (i:=14) (v:=undef) rfl (by kernel_rfl) (by kernel_rfl) (by kernel_rfl) (fun _ _ _ h=>h) (Or.inr ⟨by kernel_rfl,rfl⟩) ?_
  go_simp
  refine wpAny_take (i:=15) (v:=undef) rfl (by kernel_rfl) (by kernel_rfl) (by kernel_rfl) (fun _ _ _ h=>h) (Or.inr ⟨by kernel_rfl,rfl⟩) ?_
  go_simp
  refine wpAny_take (i:=16) (v:=.bool false) rfl (by kernel_rfl) (by kernel_rfl) (by kernel_rfl) (fun _ _ _ h=>h) (Or.inl ⟨by kernel_rfl,by intro w; go_simp⟩) ?_
  go_simp
  refine wpAny_take (i:=17) (v:=.bool false) rfl (by kernel_rfl) (by kernel_rfl) (by kernel_rfl) (fun _ _ _ h=>h) (Or.inl ⟨by kernel_rfl,by intro w; go_simp⟩) ?_
  go_simp
  refine wpAny_done (by kernel_rfl) ?_ _
  go_wp2
  go_ret
  exact ⟨ret_bool HR.out.symm,HBA.out.drew⟩
end Go.Proofs.YtgaadpkefncnmaaGreatDoor
