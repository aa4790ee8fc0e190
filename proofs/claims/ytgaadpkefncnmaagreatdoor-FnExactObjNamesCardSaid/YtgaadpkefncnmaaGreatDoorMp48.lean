/-
  Parts of the proof: ObjNamesW.
-/
import Derived.Test.YtgaadpkefncnmaaGreatDoorMp24
import Derived.Test.YtgaadpkefncnmaaGreatDoorMp21
import Derived.Test.YtgaadpkefncnmaaGreatDoorMp25
import Derived.Test.YtgaadpkefncnmaaGreatDoorMp23
import Derived.Test.YtgaadpkefncnmaaGreatDoorMp22
import Derived.Test.YtgaadpkefncnmaaGreatDoorMp16
import Derived.Deep.RegionWith
import Derived.Deep.DeepCutAuto
import Derived.Deep.RegionHeld3
/-
  The walk of the law FnExactObjNames, over the contracts of the model's function and the program's.
-/
namespace Go.Proofs.YtgaadpkefncnmaaGreatDoor
open Go.RowKit
set_option linter.unusedVariables false
set_option linter.unusedSimpArgs false
set_option maxRecDepth 20000 in
set_option maxHeartbeats 3200000 in
theorem walkObjNames (x0:DStore) (R0:List (List Int)) (hR0:(Go.Proofs.YtgaadpkefncnmaaGreatDoor.names R0).cnt≤274877906944)
  (hspec:bulks x0.cells≤1048576→∀ (u0:List Value) (E0:List Nat) (W:World),Lies W x0.cells u0 E0→Calls Tryz.prog 16 #[.agg u0.toArray] W fun e w'=>∃ (r0:Value) (J0:List Nat),e=.returned (r0)∧Lie w' (Go.Proofs.YtgaadpkefncnmaaGreatDoor.names R0) r0 J0∧(∀ g∈J0,g∈E0∨W.heap.size≤g)∧Below W.heap.size W w')
  (himpl:bulks x0.cells≤1048576→∀ (u0:List Value) (E0:List Nat) (W:World),Lies W x0.cells u0 E0→Tab W→Calls Tryz.prog 18 #[.agg u0.toArray] W fun e w'=>∃ (r0:Value) (J0:List Nat),e=.returned (r0)∧Lie w' (Go.Proofs.YtgaadpkefncnmaaGreatDoor.names R0) r0 J0∧Fresh W.heap.size w' (J0)∧Below W.heap.size W w')
  (w:World) (u0:List Value) (E0:List Nat) (h0:Lies w x0.cells u0 E0) (hTb:Tab w) :
  Calls Tryz.prog 3 #[.agg u0.toArray] w fun e w'=>e=.returned (.bool true)∧Below w.heap.size w w':=by
 have kd:=h0
 rw [x0.cells_eq] at kd
 obtain ⟨A0_0,m0_0,c0_0,r0,G0,rfl,q0⟩:=kd.seqs1
 obtain ⟨A0_1,m0_1,c0_1,r1,G1,rfl,q1⟩:=q0.seqs1
 obtain ⟨A0_2,m0_2,c0_2,r2,G2,rfl,q2⟩:=q1.seqs1
 obtain rfl:=q2.nil1
 clear kd q0 q1 q2
 obtain ⟨wa,hwa⟩:∃ wa,w.alloc (.cells #[.slice A0_0 m0_0 c0_0,.slice A0_1 m0_1 c0_1,.slice A0_2 m0_2 c0_2] 26)=wa:=⟨_,rfl⟩
 have ba:Below w.heap.size w wa:=by rw [← hwa]; exact ((Below.refl _ _).alloc (by exact Nat.le_refl _) _)
 have bA0:Box wa (w.heap.size) 26 [.slice A0_0 m0_0 c0_0,.slice A0_1 m0_1 c0_1,.slice A0_2 m0_2 c0_2]:=by
  rw [← hwa]
  have hb:=Box.new (w) [.slice A0_0 m0_0 c0_0,.slice A0_1 m0_1 c0_1,.slice A0_2 m0_2 c0_2] 26
  try simp only [World.size_alloc] at hb
  exact hb
 have HBA0:Hid (∀ W,Below wa.heap.size wa W→Box W (w.heap.size) 26 [.slice A0_0 m0_0 c0_0,.slice A0_1 m0_1 c0_1,.slice A0_2 m0_2 c0_2]):=hide (fun W hb=>bA0.step hb)
 clear bA0
 have HA0:Hid (∀ W,Below wa.heap.size wa W→Lies W x0.cells [.slice A0_0 m0_0 c0_0,.slice A0_1 m0_1 c0_1,.slice A0_2 m0_2 c0_2] E0):=hide (fun W hb=>(h0.step ba).step hb)
 have HB:=hide ba
 have HTB:=hide hTb
 clear hTb
 have HSPEC:=hide hspec
 have HIMPL:=hide himpl
 clear ba hspec himpl h0
 obtain ⟨Z0,hZ0⟩:∃ Z,bulks x0.cells=Z:=⟨_,rfl⟩
 have hsz0:=fun W (hb:Below wa.heap.size wa W) (h0:(0:Int)≤1048576)=>dszStore x0 [.slice A0_0 m0_0 c0_0,.slice A0_1 m0_1 c0_1,.slice A0_2 m0_2 c0_2] E0 (1048576) W (HA0.out W hb) h0 (by omega)
 rw [hZ0] at hsz0
 have HZ0:=hide hZ0
 have HSZ0:=hide hsz0
 clear hsz0 hZ0
 by_cases hle0:(Z0:Int)≤1048576
 rotate_left
 ·have hfail:=hle0
  go_enter Tryz.func3,Tryz.ntmps3
  have y0_0:=(HBA0.out wa (Below.refl _ _)).cell (j:=0) rfl
  have y0_1:=(HBA0.out wa (Below.refl _ _)).cell (j:=1) rfl
  have y0_2:=(HBA0.out wa (Below.refl _ _)).cell (j:=2) rfl
  have ac0:=HSZ0.out wa (Below.refl _ _) (by omega)
  rw [lft,if_neg (by omega)] at ac0
  go_wp2_with fail
  refine (ac0).mono ?_
  rintro e w1 ⟨rfl,b1⟩
  clear y0_0 y0_1 y0_2
  have dA1:=hide b1
  have z1:=hide b1.size
  clear b1
  clear ac0
  go_wp2_with fail
  go_ret
  exact ⟨rfl,HB.out.trans (dA1.out.mono HB.out.size)⟩
 have HK0:Hid (bulks x0.cells≤1048576):=hide (by rw [HZ0.out]; omega)
 have HSPEC2:=hide (HSPEC.out HK0.out)
 have HIMPL2:=hide (HIMPL.out HK0.out)
 clear HSPEC HIMPL
 obtain ⟨C0,hC0⟩:∃ C,cnts0 x0.cells=C:=⟨_,rfl⟩
 have hcb0:C0≤137438953472:=by rw [← hC0]; have h1:=(HA0.out wa (Below.refl _ _)).cntb; have h3:=HK0.out; have h2:=cnts0_le x0.cells; have h4:=x0.cells_len; omega
 have HC0:=hide hC0
 clear hC0
 obtain ⟨CR0,hCR0⟩:∃ C,(Go.Proofs.YtgaadpkefncnmaaGreatDoor.names R0).cnt=C:=⟨_,rfl⟩
 rw [hCR0] at hR0
 have HCR0:=hide hCR0
 clear hCR0
 go_enter Tryz.func3,Tryz.ntmps3
 have y0_0:=(HBA0.out wa (Below.refl _ _)).cell (j:=0) rfl
 have y0_1:=(HBA0.out wa (Below.refl _ _)).cell (j:=1) rfl
 have y0_2:=(HBA0.out wa (Below.refl _ _)).cell (j:=2) rfl
 have ac0:=HSZ0.out wa (Below.refl _ _) (by omega)
 rw [lft,if_pos (by omega)] at ac0
 have gc0:¬ (1048576 - (Z0:Int) < 0):=by omega
 go_wp2_with fail
 refine (ac0).mono ?_
 rintro e w1 ⟨rfl,b1⟩
 clear y0_0 y0_1 y0_2
 have dA1:=hide b1
 have z1:=hide b1.size
 clear b1
 clear ac0
 have y0_0:=(HBA0.out w1 dA1.out).cell (j:=0) rfl
 have y0_1:=(HBA0.out w1 dA1.out).cell (j:=1) rfl
 have y0_2:=(HBA0.out w1 dA1.out).cell (j:=2) rfl
 go_wp2_with fail
 refine (dtoStore x0 [.slice A0_0 m0_0 c0_0,.slice A0_1 m0_1 c0_1,.slice A0_2 m0_2 c0_2] E0 w1 (HA0.out w1 dA1.out) HK0.out).mono ?_
 rintro e w2 ⟨t2,J2,rfl,l2,f2,b2⟩
 clear y0_0 y0_1 y0_2
 have dA2:=hide (dA1.out.trans (b2.mono dA1.out.size))
 have z2:=hide b2.size
 clear b2
 have kd:=l2
 rw [x0.cells_eq] at kd
 obtain ⟨As0_0,ms0_0,cs0_0,r0,G0,rfl,q0⟩:=kd.seqs1
 obtain ⟨As0_1,ms0_1,cs0_1,r1,G1,rfl,q1⟩:=q0.seqs1
 obtain ⟨As0_2,ms0_2,cs0_2,r2,G2,rfl,q2⟩:=q1.seqs1
 obtain rfl:=q2.nil1
 clear kd q0 q1 q2
 have HLs0:Hid (∀ W,Below w2.heap.size w2 W→Lies W x0.cells [.slice As0_0 ms0_0 cs0_0,.slice As0_1 ms0_1 cs0_1,.slice As0_2 ms0_2 cs0_2] J2∧Live W J2):=hide (fun W hb=>⟨l2.step hb,f2.live.step hb⟩)
 have HFs0:Hid (J2.Nodup∧(∀ g∈J2,w1.heap.size≤g)∧∀ g∈J2,g < w2.heap.size):=hide ⟨f2.nodup,f2.low,fun g hg=>f2.live.lt g hg⟩
 clear l2 f2
 go_wp2_with fail
 refine (HSPEC2.out [.slice As0_0 ms0_0 cs0_0,.slice As0_1 ms0_1 cs0_1,.slice As0_2 ms0_2 cs0_2] J2 w2 (HLs0.out w2 (Below.refl _ _)).1).mono ?_
 rintro e w3 ⟨r0_3,J0_3,rfl,l0_3,f0_3,b3⟩
 have dA3:=hide (dA2.out.trans (b3.mono dA2.out.size))
 have ds03:=hide b3
 have z3:=hide b3.size
 clear b3
 clear f0_3
 obtain ⟨Xw0,Nw0,zw0_,rfl⟩:∃ X y z,r0_3=.slice X y z:=by obtain ⟨X,z,e,_,_⟩:=l0_3.form; exact ⟨_,_,_,e⟩
 have HLw0:Hid (∀ W,Below w3.heap.size w3 W→Lie W (Go.Proofs.YtgaadpkefncnmaaGreatDoor.names R0) (.slice Xw0 Nw0 zw0_) J0_3∧True):=hide (fun W hb=>⟨l0_3.step hb,trivial⟩)
 clear l0_3
 have y0_0:=(HBA0.out w3 dA3.out).cell (j:=0) rfl
 have y0_1:=(HBA0.out w3 dA3.out).cell (j:=1) rfl
 have y0_2:=(HBA0.out w3 dA3.out).cell (j:=2) rfl
 go_wp2_with fail
 refine (dtoStore x0 [.slice A0_0 m0_0 c0_0,.slice A0_1 m0_1 c0_1,.slice A0_2 m0_2 c0_2] E0 w3 (HA0.out w3 dA3.out) HK0.out).mono ?_
 rintro e w4 ⟨t4,J4,rfl,l4,f4,b4⟩
 clear y0_0 y0_1 y0_2
 have dA4:=hide (dA3.out.trans (b4.mono dA3.out.size))
 have dw04:=hide b4
 have z4:=hide b4.size
 clear b4
 have kd:=l4
 rw [x0.cells_eq] at kd
 obtain ⟨Ax0__0,mx0__0,cx0__0,r0,G0,rfl,q0⟩:=kd.seqs1
 obtain ⟨Ax0__1,mx0__1,cx0__1,r1,G1,rfl,q1⟩:=q0.seqs1
 obtain ⟨Ax0__2,mx0__2,cx0__2,r2,G2,rfl,q2⟩:=q1.seqs1
 obtain rfl:=q2.nil1
 clear kd q0 q1 q2
 have HLx0_:Hid (∀ W,Below w4.heap.size w4 W→Lies W x0.cells [.slice Ax0__0 mx0__0 cx0__0,.slice Ax0__1 mx0__1 cx0__1,.slice Ax0__2 mx0__2 cx0__2] J4∧Live W J4):=hide (fun W hb=>⟨l4.step hb,f4.live.step hb⟩)
 have HFx0_:Hid (J4.Nodup∧(∀ g∈J4,w3.heap.size≤g)∧∀ g∈J4,g < w4.heap.size):=hide ⟨f4.nodup,f4.low,fun g hg=>f4.live.lt g hg⟩
 clear l4 f4
 obtain ⟨wz5,hwz5⟩:∃ W,w4.alloc (.cells #[.slice none 0 0,.slice none 0 0,.slice none 0 0] 32)=W:=⟨_,rfl⟩
 have bz5:Below w4.heap.size w4 wz5:=by rw [← hwz5]; exact ((Below.refl _ _).alloc (by exact Nat.le_refl _) _)
 have bq5_0:Box wz5 (w4.heap.size) 32 [.slice none 0 0,.slice none 0 0,.slice none 0 0]:=by
  rw [← hwz5]
  have hb:=Box.new (w4) [.slice none 0 0,.slice none 0 0,.slice none 0 0] 32
  try simp only [World.size_alloc] at hb
  exact hb
 obtain ⟨w5,hws5_0⟩:∃ W,wz5.setCells (w4.heap.size) 0 [.slice Ax0__0 mx0__0 cx0__0,.slice Ax0__1 mx0__1 cx0__1,.slice Ax0__2 mx0__2 cx0__2]=W:=⟨_,rfl⟩
 have TH5_0:=hide (bq5_0.there (o:=0) (n:=3) (by simp))
 have bu5:=but_sets wz5 (w4.heap.size) [.slice Ax0__0 mx0__0 cx0__0,.slice Ax0__1 mx0__1 cx0__1,.slice Ax0__2 mx0__2 cx0__2] 0
 rw [hws5_0] at bu5
 have bq5_0:Box w5 (w4.heap.size) 32 [.slice Ax0__0 mx0__0 cx0__0,.slice Ax0__1 mx0__1 cx0__1,.slice Ax0__2 mx0__2 cx0__2]:=by have:=bq5_0.sets (vs:=[.slice Ax0__0 mx0__0 cx0__0,.slice Ax0__1 mx0__1 cx0__1,.slice Ax0__2 mx0__2 cx0__2]) (o:=0); rw [hws5_0] at this; exact this
 have bz5:Below w4.heap.size w4 w5:=bu5.below bz5 (fun g hg=>by have:=List.mem_singleton.1 hg; omega) bz5.size
 clear bu5
 have HWS5_0:=hide hws5_0
 have ON5_0:Hid ((#[.slice Ax0__0 mx0__0 cx0__0,.slice Ax0__1 mx0__1 cx0__1,.slice Ax0__2 mx0__2 cx0__2]:Array Value).all (·.oneCell')=true):=hide (by simp [Value.oneCell'])
 clear hws5_0
 have HWZ5:=hide hwz5
 clear hwz5
 have b5:=bz5
 clear bz5
 have HXx0_:Hid (∀ W,Below w5.heap.size w5 W→Box W (w4.heap.size) 32 [.slice Ax0__0 mx0__0 cx0__0,.slice Ax0__1 mx0__1 cx0__1,.slice Ax0__2 mx0__2 cx0__2]):=hide (fun W hb=>bq5_0.step hb)
 clear bq5_0
 have dA5:=hide (dA4.out.trans (b5.mono dA4.out.size))
 have dw05:=hide (dw04.out.trans (b5.mono dw04.out.size))
 have dx0_5:=hide b5
 have z5:=hide b5.size
 have yox0__0:=(HXx0_.out w5 (Below.refl _ _)).cell (j:=0) rfl
 have yox0__1:=(HXx0_.out w5 (Below.refl _ _)).cell (j:=1) rfl
 have yox0__2:=(HXx0_.out w5 (Below.refl _ _)).cell (j:=2) rfl
 go_wp2_with (first
   | ((with_reducible refine at_store 32 ?_); rw [HWZ5.out]; refine wpList_store_mid rfl _ _ _ rfl (w4.heap.size) 0 #[.slice Ax0__0 mx0__0 cx0__0,.slice Ax0__1 mx0__1 cx0__1,.slice Ax0__2 mx0__2 cx0__2] rfl rfl TH5_0.out (by kernel_rfl) ON5_0.out ?_; change wpList _ _ _ _ _ (wz5.setCells (w4.heap.size) 0 [.slice Ax0__0 mx0__0 cx0__0,.slice Ax0__1 mx0__1 cx0__1,.slice Ax0__2 mx0__2 cx0__2]); rw [HWS5_0.out]))
 refine (HIMPL2.out [.slice Ax0__0 mx0__0 cx0__0,.slice Ax0__1 mx0__1 cx0__1,.slice Ax0__2 mx0__2 cx0__2] J4 w5 (HLx0_.out w5 dx0_5.out).1 (HTB.out.step (HB.out.trans (dA5.out.mono HB.out.size)))).mono ?_
 rintro e w6 ⟨r0_6,J0_6,rfl,l0_6,f6,b6⟩
 clear yox0__0 yox0__1 yox0__2
 have dA6:=hide (dA5.out.trans (b6.mono dA5.out.size))
 have dw06:=hide (dw05.out.trans (b6.mono dw05.out.size))
 have dx0_6:=hide (dx0_5.out.trans (b6.mono dx0_5.out.size))
 have dx0_b6:=hide b6
 have z6:=hide b6.size
 clear b6
 have f0_6:=f6
 obtain ⟨Xg0,Ng0,zg0_,rfl⟩:∃ X y z,r0_6=.slice X y z:=by obtain ⟨X,z,e,_,_⟩:=l0_6.form; exact ⟨_,_,_,e⟩
 have HLg0:Hid (∀ W,Below w6.heap.size w6 W→Lie W (Go.Proofs.YtgaadpkefncnmaaGreatDoor.names R0) (.slice Xg0 Ng0 zg0_) J0_6∧Live W J0_6):=hide (fun W hb=>⟨l0_6.step hb,f0_6.live.step hb⟩)
 have HFg0:Hid (J0_6.Nodup∧(∀ g∈J0_6,w5.heap.size≤g)∧∀ g∈J0_6,g < w6.heap.size):=hide ⟨f0_6.nodup,f0_6.low,fun g hg=>f0_6.live.lt g hg⟩
 clear l0_6 f0_6
 go_wp2_with fail
 refine (deqNames R0 (.slice Xg0 Ng0 zg0_) (.slice Xw0 Nw0 zw0_) _ _ w6 (HLg0.out w6 (Below.refl _ _)).1 (HLw0.out w6 dw06.out).1).mono ?_
 rintro e w7 ⟨rfl,b7⟩
 have dA7:=hide (dA6.out.trans (b7.mono dA6.out.size))
 have dw07:=hide (dw06.out.trans (b7.mono dw06.out.size))
 have dx0_7:=hide (dx0_6.out.trans (b7.mono dx0_6.out.size))
 have dx0_b7:=hide (dx0_b6.out.trans (b7.mono dx0_b6.out.size))
 have dg07:=hide b7
 have z7:=hide b7.size
 clear b7
 go_upto_region 10 with (fail)
 have yox0__0:=(HXx0_.out w7 dx0_b7.out).cell (j:=0) rfl
 have yox0__1:=(HXx0_.out w7 dx0_b7.out).cell (j:=1) rfl
 have yox0__2:=(HXx0_.out w7 dx0_b7.out).cell (j:=2) rfl
 have y0_0:=(HBA0.out w7 dA7.out).cell (j:=0) rfl
 have y0_1:=(HBA0.out w7 dA7.out).cell (j:=1) rfl
 have y0_2:=(HBA0.out w7 dA7.out).cell (j:=2) rfl
 have HDR:=hide (show Below w7.heap.size w7 w7.drew from (Below.refl _ _).drew)
 go_cut [31] (fun v wx=>v=.bool false∧Below w7.heap.size w7 wx)
 case first =>
  go_region_with (first
   | (go_at_call 17; refine (dtoStore x0 [.slice A0_0 m0_0 c0_0,.slice A0_1 m0_1 c0_1,.slice A0_2 m0_2 c0_2] E0 w7.drew (HA0.out _ (dA7.out.trans (HDR.out.mono dA7.out.size))) HK0.out).mono ?_; rintro e w7 ⟨t7,J7,rfl,l7,f7,b7⟩; have yox0__0:=(HXx0_.out _ ((dx0_b7.out.trans (HDR.out.mono dx0_b7.out.size)).trans (b7.mono (dx0_b7.out.trans (HDR.out.mono dx0_b7.out.size)).size))).cell (j:=0) rfl; have yox0__1:=(HXx0_.out _ ((dx0_b7.out.trans (HDR.out.mono dx0_b7.out.size)).trans (b7.mono (dx0_b7.out.trans (HDR.out.mono dx0_b7.out.size)).size))).cell (j:=1) rfl; have yox0__2:=(HXx0_.out _ ((dx0_b7.out.trans (HDR.out.mono dx0_b7.out.size)).trans (b7.mono (dx0_b7.out.trans (HDR.out.mono dx0_b7.out.size)).size))).cell (j:=2) rfl; have y0_0:=(HBA0.out _ ((dA7.out.trans (HDR.out.mono dA7.out.size)).trans (b7.mono (dA7.out.trans (HDR.out.mono dA7.out.size)).size))).cell (j:=0) rfl; have y0_1:=(HBA0.out _ ((dA7.out.trans (HDR.out.mono dA7.out.size)).trans (b7.mono (dA7.out.trans (HDR.out.mono dA7.out.size)).size))).cell (j:=1) rfl; have y0_2:=(HBA0.out _ ((dA7.out.trans (HDR.out.mono dA7.out.size)).trans (b7.mono (dA7.out.trans (HDR.out.mono dA7.out.size)).size))).cell (j:=2) rfl)
   | (go_at_call 20; refine (deqStore x0 [.slice Ax0__0 mx0__0 cx0__0,.slice Ax0__1 mx0__1 cx0__1,.slice Ax0__2 mx0__2 cx0__2] _ _ J7 w7 (HLx0_.out _ ((dx0_7.out.trans (HDR.out.mono dx0_7.out.size)).trans (b7.mono (dx0_7.out.trans (HDR.out.mono dx0_7.out.size)).size))).1 l7).mono ?_; rintro e w8 ⟨rfl,b8⟩))
  all_goals
   have hfin:=HDR.out.trans (b7.trans (b8.mono b7.size) |>.mono HDR.out.size)
   have HF:=hide hfin
   clear hfin
   go_wp2
   go_meet
   exact ⟨rfl,HF.out⟩
 case rest =>
  clear HDR yox0__0 yox0__1 yox0__2 y0_0 y0_1 y0_2
  obtain ⟨rfl,b8⟩:=hcut
  obtain ⟨w8,hwc⟩:∃ W,W=wc:=⟨_,rfl⟩
  subst hwc
  have dA8:=hide (dA7.out.trans (b8.mono dA7.out.size))
  have dw08:=hide (dw07.out.trans (b8.mono dw07.out.size))
  have dx0_8:=hide (dx0_7.out.trans (b8.mono dx0_7.out.size))
  have dx0_b8:=hide (dx0_b7.out.trans (b8.mono dx0_b7.out.size))
  have dg08:=hide (dg07.out.trans (b8.mono dg07.out.size))
  have z8:=hide b8.size
  clear b8
  have yox0__0:=(HXx0_.out w8 dx0_b8.out).cell (j:=0) rfl
  have yox0__1:=(HXx0_.out w8 dx0_b8.out).cell (j:=1) rfl
  have yox0__2:=(HXx0_.out w8 dx0_b8.out).cell (j:=2) rfl
  go_wp2_with fail
  refine (dmarkStore x0 [.slice Ax0__0 mx0__0 cx0__0,.slice Ax0__1 mx0__1 cx0__1,.slice Ax0__2 mx0__2 cx0__2] J4 (1) w8 (HLx0_.out w8 dx0_8.out).1 HFx0_.out.1 (HLx0_.out w8 dx0_8.out).2 (by omega) (by rw [HC0.out]; omega)).mono ?_
  rintro e w9 ⟨rfl,l9,v9,m9⟩
  rw [HC0.out]
  clear yox0__0 yox0__1 yox0__2
  have b9:=m9.size
  have lowF:=HFx0_.out.2.1
  have highF:=HFx0_.out.2.2
  have dA9:=hide (m9.below dA8.out (fun g hg=>by have h1:=lowF g hg; have:=z1.out; have:=z2.out; have:=z3.out; have:=z4.out; have:=z5.out; have:=z6.out; have:=z7.out; have:=z8.out; omega) dA8.out.size)
  have dw09:=hide (m9.below dw08.out (fun g hg=>by have h1:=lowF g hg; have:=z1.out; have:=z2.out; have:=z3.out; have:=z4.out; have:=z5.out; have:=z6.out; have:=z7.out; have:=z8.out; omega) dw08.out.size)
  have mv9g0:=HLg0.out w8 dg08.out
  have hi9g0:=HFg0.out
  have ml9:=mv9g0.1.but m9 (fun g hg hc=>by have h1:=highF g hc; have h2:=hi9g0.2.1 g hg; have:=z1.out; have:=z2.out; have:=z3.out; have:=z4.out; have:=z5.out; have:=z6.out; have:=z7.out; have:=z8.out; omega)
  have mw9:=mv9g0.2.but m9 (fun g hg hc=>by have h1:=highF g hc; have h2:=hi9g0.2.1 g hg; have:=z1.out; have:=z2.out; have:=z3.out; have:=z4.out; have:=z5.out; have:=z6.out; have:=z7.out; have:=z8.out; omega)
  have HLg0:Hid (∀ W,Below w9.heap.size w9 W→Lie W (Go.Proofs.YtgaadpkefncnmaaGreatDoor.names R0) (.slice Xg0 Ng0 zg0_) J0_6∧Live W J0_6):=hide (fun W hb=>⟨ml9.step hb,mw9.step hb⟩)
  clear mv9g0 ml9 mw9 hi9g0
  have z9:=hide b9
  clear b9 lowF highF l9 v9 m9
  have gk:¬ (1 + (C0:Int) < 0):=by omega
  go_wp2_with fail
  refine (deqNames R0 (.slice Xg0 Ng0 zg0_) (.slice Xw0 Nw0 zw0_) _ _ w9 (HLg0.out w9 (Below.refl _ _)).1 (HLw0.out w9 dw09.out).1).mono ?_
  rintro e w10 ⟨rfl,b10⟩
  have dA10:=hide (dA9.out.trans (b10.mono dA9.out.size))
  have dw010:=hide (dw09.out.trans (b10.mono dw09.out.size))
  have dg010:=hide b10
  have z10:=hide b10.size
  clear b10
  go_wp2_with fail
  refine (dmarkNames R0 (.slice Xg0 Ng0 zg0_) J0_6 (1) w10 (HLg0.out w10 dg010.out).1 HFg0.out.1 (HLg0.out w10 dg010.out).2 (by omega) (by rw [HCR0.out]; omega)).mono ?_
  rintro e w11 ⟨rfl,l11,v11,m11⟩
  rw [HCR0.out]
  have b11:=m11.size
  have lowF:=HFg0.out.2.1
  have highF:=HFg0.out.2.2
  have dA11:=hide (m11.below dA10.out (fun g hg=>by have h1:=lowF g hg; have:=z1.out; have:=z2.out; have:=z3.out; have:=z4.out; have:=z5.out; have:=z6.out; have:=z7.out; have:=z8.out; have:=z9.out; have:=z10.out; omega) dA10.out.size)
  have dw011:=hide (m11.below dw010.out (fun g hg=>by have h1:=lowF g hg; have:=z1.out; have:=z2.out; have:=z3.out; have:=z4.out; have:=z5.out; have:=z6.out; have:=z7.out; have:=z8.out; have:=z9.out; have:=z10.out; omega) dw010.out.size)
  have HMg0:Hid (∀ W,Below w11.heap.size w11 W→Lie W ((Go.Proofs.YtgaadpkefncnmaaGreatDoor.names R0).mk (1)) (.slice Xg0 Ng0 zg0_) J0_6):=hide (fun W hb=>l11.step hb)
  have z11:=hide b11
  clear b11 lowF highF l11 v11 m11
  have hcall:=dheldNames R0 (.slice Xg0 Ng0 zg0_) J0_6 (1) w11 (HMg0.out w11 (Below.refl _ _)) (by omega) (by rw [HCR0.out]; omega)
  rw [HCR0.out] at hcall
  have gh11:¬ (1 + (CR0:Int) < 0):=by omega
  have HCALL:=hide hcall
  clear hcall
  go_wp2_with fail
  refine (HCALL.out).mono ?_
  rintro e w12 ⟨rfl,b12⟩
  have dA12:=hide (dA11.out.trans (b12.mono dA11.out.size))
  have dw012:=hide (dw011.out.trans (b12.mono dw011.out.size))
  have dg012:=hide b12
  have z12:=hide b12.size
  clear b12
  clear HCALL
  have ge12:((1 + (CR0:Int)) != 1 + (CR0:Int))=false:=by simp
  have y0_0:=(HBA0.out w12 dA12.out).cell (j:=0) rfl
  have y0_1:=(HBA0.out w12 dA12.out).cell (j:=1) rfl
  have y0_2:=(HBA0.out w12 dA12.out).cell (j:=2) rfl
  go_wp2_with fail
  refine (dtoStore x0 [.slice A0_0 m0_0 c0_0,.slice A0_1 m0_1 c0_1,.slice A0_2 m0_2 c0_2] E0 w12 (HA0.out w12 dA12.out) HK0.out).mono ?_
  rintro e w13 ⟨t13,J13,rfl,l13,f13,b13⟩
  clear y0_0 y0_1 y0_2
  have dA13:=hide (dA12.out.trans (b13.mono dA12.out.size))
  have dw013:=hide (dw012.out.trans (b13.mono dw012.out.size))
  have dg013:=hide (dg012.out.trans (b13.mono dg012.out.size))
  have z13:=hide b13.size
  clear b13
  have kd:=l13
  rw [x0.cells_eq] at kd
  obtain ⟨Ah0__0,mh0__0,ch0__0,r0,G0,rfl,q0⟩:=kd.seqs1
  obtain ⟨Ah0__1,mh0__1,ch0__1,r1,G1,rfl,q1⟩:=q0.seqs1
  obtain ⟨Ah0__2,mh0__2,ch0__2,r2,G2,rfl,q2⟩:=q1.seqs1
  obtain rfl:=q2.nil1
  clear kd q0 q1 q2
  have HLh0_:Hid (∀ W,Below w13.heap.size w13 W→Lies W x0.cells [.slice Ah0__0 mh0__0 ch0__0,.slice Ah0__1 mh0__1 ch0__1,.slice Ah0__2 mh0__2 ch0__2] J13∧Live W J13):=hide (fun W hb=>⟨l13.step hb,f13.live.step hb⟩)
  have HFh0_:Hid (J13.Nodup∧(∀ g∈J13,w12.heap.size≤g)∧∀ g∈J13,g < w13.heap.size):=hide ⟨f13.nodup,f13.low,fun g hg=>f13.live.lt g hg⟩
  clear l13 f13
  go_wp2_with fail
  refine (HIMPL2.out [.slice Ah0__0 mh0__0 ch0__0,.slice Ah0__1 mh0__1 ch0__1,.slice Ah0__2 mh0__2 ch0__2] J13 w13 (HLh0_.out w13 (Below.refl _ _)).1 (HTB.out.step (HB.out.trans (dA13.out.mono HB.out.size)))).mono ?_
  rintro e w14 ⟨r0_14,J0_14,rfl,l0_14,f14,b14⟩
  have dA14:=hide (dA13.out.trans (b14.mono dA13.out.size))
  have dw014:=hide (dw013.out.trans (b14.mono dw013.out.size))
  have dg014:=hide (dg013.out.trans (b14.mono dg013.out.size))
  have dh0_14:=hide b14
  have z14:=hide b14.size
  clear b14
  have f0_14:=f14
  obtain ⟨Xh0,Nh0,zh0_,rfl⟩:∃ X y z,r0_14=.slice X y z:=by obtain ⟨X,z,e,_,_⟩:=l0_14.form; exact ⟨_,_,_,e⟩
  have HLh0:Hid (∀ W,Below w14.heap.size w14 W→Lie W (Go.Proofs.YtgaadpkefncnmaaGreatDoor.names R0) (.slice Xh0 Nh0 zh0_) J0_14∧Live W J0_14):=hide (fun W hb=>⟨l0_14.step hb,f0_14.live.step hb⟩)
  have HFh0:Hid (J0_14.Nodup∧(∀ g∈J0_14,w13.heap.size≤g)∧∀ g∈J0_14,g < w14.heap.size):=hide ⟨f0_14.nodup,f0_14.low,fun g hg=>f0_14.live.lt g hg⟩
  clear l0_14 f0_14
  go_wp2_with fail
  refine (deqNames R0 (.slice Xh0 Nh0 zh0_) (.slice Xw0 Nw0 zw0_) _ _ w14 (HLh0.out w14 (Below.refl _ _)).1 (HLw0.out w14 dw014.out).1).mono ?_
  rintro e w15 ⟨rfl,b15⟩
  have dA15:=hide (dA14.out.trans (b15.mono dA14.out.size))
  have dw015:=hide (dw014.out.trans (b15.mono dw014.out.size))
  have dg015:=hide (dg014.out.trans (b15.mono dg014.out.size))
  have dh015:=hide b15
  have z15:=hide b15.size
  clear b15
  have hcall:=dheldNames R0 (.slice Xg0 Ng0 zg0_) J0_6 (1) w15 (HMg0.out w15 dg015.out) (by omega) (by rw [HCR0.out]; omega)
  rw [HCR0.out] at hcall
  have gh15:¬ (1 + (CR0:Int) < 0):=by omega
  have HCALL:=hide hcall
  clear hcall
  go_wp2_with fail
  refine (HCALL.out).mono ?_
  rintro e w16 ⟨rfl,b16⟩
  have dA16:=hide (dA15.out.trans (b16.mono dA15.out.size))
  have dw016:=hide (dw015.out.trans (b16.mono dw015.out.size))
  have dg016:=hide (dg015.out.trans (b16.mono dg015.out.size))
  have z16:=hide b16.size
  clear b16
  clear HCALL
  have ge16:((1 + (CR0:Int)) != 1 + (CR0:Int))=false:=by simp
  go_wp2_with fail
  go_ret
  exact ⟨rfl,HB.out.trans (dA16.out.mono HB.out.size)⟩
end Go.Proofs.YtgaadpkefncnmaaGreatDoor
