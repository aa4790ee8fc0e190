/-
  Parts of the proof: UsersOfW.
-/
import Derived.Test.YtgaadpkefncnmaaGreatDoorMp24
import Derived.Test.YtgaadpkefncnmaaGreatDoorMp21
import Derived.Test.YtgaadpkefncnmaaGreatDoorMp25
import Derived.Test.YtgaadpkefncnmaaGreatDoorMp23
import Derived.Test.YtgaadpkefncnmaaGreatDoorMp22
import Derived.Test.YtgaadpkefncnmaaGreatDoorMp16
import Derived.Deep.RegionWith
import Derived.Deep.DeepCutAuto
import Derived.Deep.RegionHeld3
/-
  The walk of the law FnExactUsersOf, over the contracts of the model's function and the program's.
-/
namespace Go.Proofs.YtgaadpkefncnmaaGreatDoor
open Go.RowKit
set_option linter.unusedVariables false
set_option linter.unusedSimpArgs false
set_option maxRecDepth 20000 in
set_option maxHeartbeats 3200000 in
theorem walkUsersOf (x0:DStore) (x1:List Int) (R0:List (List Int)) (hR0:(Go.Proofs.YtgaadpkefncnmaaGreatDoor.names R0).cnt≤274877906944)
  (hspec:bulks x0.cells≤1048576→(raw x1).bulk≤1048576→∀ (u0:List Value) (E0:List Nat) (u1:Value) (E1:List Nat) (W:World),Lies W x0.cells u0 E0→Lie W (raw x1) u1 E1→Calls Tryz.prog 29 #[.agg u0.toArray,u1] W fun e w'=>∃ (r0:Value) (J0:List Nat),e=.returned (r0)∧Lie w' (Go.Proofs.YtgaadpkefncnmaaGreatDoor.names R0) r0 J0∧(∀ g∈J0,g∈E0∨g∈E1∨W.heap.size≤g)∧Below W.heap.size W w')
  (himpl:bulks x0.cells≤1048576→(raw x1).bulk≤1048576→∀ (u0:List Value) (E0:List Nat) (u1:Value) (E1:List Nat) (W:World),Lies W x0.cells u0 E0→Lie W (raw x1) u1 E1→Tab W→Calls Tryz.prog 30 #[.agg u0.toArray,u1] W fun e w'=>∃ (r0:Value) (J0:List Nat),e=.returned (r0)∧Lie w' (Go.Proofs.YtgaadpkefncnmaaGreatDoor.names R0) r0 J0∧Fresh W.heap.size w' (J0)∧Below W.heap.size W w')
  (w:World) (u0:List Value) (E0:List Nat) (h0:Lies w x0.cells u0 E0) (u1:Value) (E1:List Nat) (h1:Lie w (raw x1) u1 E1) (hTb:Tab w) :
  Calls Tryz.prog 5 #[.agg u0.toArray,u1] w fun e w'=>e=.returned (.bool true)∧Below w.heap.size w w':=by
 have kd:=h0
 rw [x0.cells_eq] at kd
 obtain ⟨A0_0,m0_0,c0_0,r0,G0,rfl,q0⟩:=kd.seqs1
 obtain ⟨A0_1,m0_1,c0_1,r1,G1,rfl,q1⟩:=q0.seqs1
 obtain ⟨A0_2,m0_2,c0_2,r2,G2,rfl,q2⟩:=q1.seqs1
 obtain rfl:=q2.nil1
 clear kd q0 q1 q2
 obtain ⟨A1,c1_,hV1,hc1a,hc1b⟩:=h1.form
 unfold maxLen at hc1b
 obtain ⟨n1,hn1⟩:∃ n,x1.length=n:=⟨_,rfl⟩
 rw [hn1] at hV1 hc1a
 subst hV1
 obtain ⟨wa,hwa⟩:∃ wa,w.alloc (.cells #[.slice A0_0 m0_0 c0_0,.slice A0_1 m0_1 c0_1,.slice A0_2 m0_2 c0_2] 26)=wa:=⟨_,rfl⟩
 have ba:Below w.heap.size w wa:=by rw [← hwa]; exact ((Below.refl _ _).alloc (by exact Nat.le_refl _) _)
 have bA0:Box wa (w.heap.size) 26 [.slice A0_0 m0_0 c0_0,.slice A0_1 m0_1 c0_1,.slice A0_2 m0_2 c0_2]:=by
  rw [← hwa]
  have hb:=Box.new (w) [.slice A0_0 m0_0 c0_0,.slice A0_1 m0_1 c0_1,.slice A0_2 m0_2 c0_2] 26
  try simp only [World.size_alloc] at hb
  exact hb
 have HBA0:Hid (∀ W,Below wa.heap.size wa W→Box W (w.heap.size) 26 [.slice A0_0 m0_0 c0_0,.slice A0_1 m0_1 c0_1,.slice A0_2 m0_2 c0_2]):=hide (fun W hb=>bA0.step hb)
 clear bA0
 have HA0:Hid (∀ W,Below wa.heap.size wa W→Lies W x0.cells [.slice A0_0 m0_0 c0_0,.slice A0_1 m0_1 c0_1,.slice A0_2 m0_2 c0_2] E0):=hide (fun W hb=>(h0.step ba).step hb)
 have HA1:Hid (∀ W,Below wa.heap.size wa W→Lie W (raw x1) (.slice A1 n1 c1_) E1):=hide (fun W hb=>(h1.step ba).step hb)
 have HB:=hide ba
 have HTB:=hide hTb
 clear hTb
 have HSPEC:=hide hspec
 have HIMPL:=hide himpl
 clear ba hspec himpl h0 h1
 have HN1:=hide hn1
 clear hn1
 by_cases hl1:1048576 < n1
 ·go_enter Tryz.func5,Tryz.ntmps5
  go_wp2
  go_ret
  exact ⟨rfl,HB.out⟩
 have HK1:Hid ((raw x1).bulk≤1048576):=hide (by rw [raw_bulk,HN1.out]; omega)
 obtain ⟨Z0,hZ0⟩:∃ Z,bulks x0.cells=Z:=⟨_,rfl⟩
 have hsz0:=fun W (hb:Below wa.heap.size wa W) (h0:(0:Int)≤1048576)=>dszStore x0 [.slice A0_0 m0_0 c0_0,.slice A0_1 m0_1 c0_1,.slice A0_2 m0_2 c0_2] E0 (1048576) W (HA0.out W hb) h0 (by omega)
 rw [hZ0] at hsz0
 have HZ0:=hide hZ0
 have HSZ0:=hide hsz0
 clear hsz0 hZ0
 by_cases hle0:(Z0:Int)≤1048576
 rotate_left
 ·have hfail:=hle0
  go_enter Tryz.func5,Tryz.ntmps5
  have y0_0:=(HBA0.out wa (Below.refl _ _)).cell (j:=0) rfl
  have y0_1:=(HBA0.out wa (Below.refl _ _)).cell (j:=1) rfl
  have y0_2:=(HBA0.out wa (Below.refl _ _)).cell (j:=2) rfl
  have ac0:=HSZ0.out wa (Below.refl _ _) (by omega)
  rw [lft,if_neg (by omega)] at ac0
  go_wp2_with fail
  refine (ac0).mono ?_
  rintro e w1 ⟨rfl,b1⟩
  clear y0_0 y0_1 y0_2
  have dA1:=hide b1
  have z1:=hide b1.size
  clear b1
  clear ac0
  go_wp2_with fail
  go_ret
  exact ⟨rfl,HB.out.trans (dA1.out.mono HB.out.size)⟩
 have HK0:Hid (bulks x0.cells≤1048576):=hide (by rw [HZ0.out]; omega)
 have HSPEC2:=hide (HSPEC.out HK0.out HK1.out)
 have HIMPL2:=hide (HIMPL.out HK0.out HK1.out)
 clear HSPEC HIMPL
 obtain ⟨C0,hC0⟩:∃ C,cnts0 x0.cells=C:=⟨_,rfl⟩
 have hcb0:C0≤137438953472:=by rw [← hC0]; have h1:=(HA0.out wa (Below.refl _ _)).cntb; have h3:=HK0.out; have h2:=cnts0_le x0.cells; have h4:=x0.cells_len; omega
 have HC0:=hide hC0
 clear hC0
 obtain ⟨C1,hC1⟩:∃ C,(raw x1).cnt=C:=⟨_,rfl⟩
 have hcb1:C1≤137438953472:=by rw [← hC1]; have h1:=(HA1.out wa (Below.refl _ _)).cntb; have h3:=HK1.out; omega
 have HC1:=hide hC1
 clear hC1
 obtain ⟨CR0,hCR0⟩:∃ C,(Go.Proofs.YtgaadpkefncnmaaGreatDoor.names R0).cnt=C:=⟨_,rfl⟩
 rw [hCR0] at hR0
 have HCR0:=hide hCR0
 clear hCR0
 go_enter Tryz.func5,Tryz.ntmps5
 have y0_0:=(HBA0.out wa (Below.refl _ _)).cell (j:=0) rfl
 have y0_1:=(HBA0.out wa (Below.refl _ _)).cell (j:=1) rfl
 have y0_2:=(HBA0.out wa (Below.refl _ _)).cell (j:=2) rfl
 have ac0:=HSZ0.out wa (Below.refl _ _) (by omega)
 rw [lft,if_pos (by omega)] at ac0
 have gc0:¬ (1048576 - (Z0:Int) < 0):=by omega
 go_wp2_with fail
 refine (ac0).mono ?_
 rintro e w1 ⟨rfl,b1⟩
 clear y0_0 y0_1 y0_2
 have dA1:=hide b1
 have z1:=hide b1.size
 clear b1
 clear ac0
 have y0_0:=(HBA0.out w1 dA1.out).cell (j:=0) rfl
 have y0_1:=(HBA0.out w1 dA1.out).cell (j:=1) rfl
 have y0_2:=(HBA0.out w1 dA1.out).cell (j:=2) rfl
 go_wp2_with fail
 refine (dtoStore x0 [.slice A0_0 m0_0 c0_0,.slice A0_1 m0_1 c0_1,.slice A0_2 m0_2 c0_2] E0 w1 (HA0.out w1 dA1.out) HK0.out).mono ?_
 rintro e w2 ⟨t2,J2,rfl,l2,f2,b2⟩
 clear y0_0 y0_1 y0_2
 have dA2:=hide (dA1.out.trans (b2.mono dA1.out.size))
 have z2:=hide b2.size
 clear b2
 have kd:=l2
 rw [x0.cells_eq] at kd
 obtain ⟨As0_0,ms0_0,cs0_0,r0,G0,rfl,q0⟩:=kd.seqs1
 obtain ⟨As0_1,ms0_1,cs0_1,r1,G1,rfl,q1⟩:=q0.seqs1
 obtain ⟨As0_2,ms0_2,cs0_2,r2,G2,rfl,q2⟩:=q1.seqs1
 obtain rfl:=q2.nil1
 clear kd q0 q1 q2
 have HLs0:Hid (∀ W,Below w2.heap.size w2 W→Lies W x0.cells [.slice As0_0 ms0_0 cs0_0,.slice As0_1 ms0_1 cs0_1,.slice As0_2 ms0_2 cs0_2] J2∧Live W J2):=hide (fun W hb=>⟨l2.step hb,f2.live.step hb⟩)
 have HFs0:Hid (J2.Nodup∧(∀ g∈J2,w1.heap.size≤g)∧∀ g∈J2,g < w2.heap.size):=hide ⟨f2.nodup,f2.low,fun g hg=>f2.live.lt g hg⟩
 clear l2 f2
 go_wp2_with fail
 refine (dtoRaw x1 (.slice A1 n1 c1_) E1 w2 (HA1.out w2 dA2.out) HK1.out).mono ?_
 rintro e w3 ⟨t3,J3,rfl,l3,f3,b3⟩
 have dA3:=hide (dA2.out.trans (b3.mono dA2.out.size))
 have ds03:=hide b3
 have z3:=hide b3.size
 clear b3
 obtain ⟨Xs1,Ns1,zs1_,rfl⟩:∃ X y z,t3=.slice X y z:=by obtain ⟨X,z,e,_,_⟩:=l3.form; exact ⟨_,_,_,e⟩
 have HLs1:Hid (∀ W,Below w3.heap.size w3 W→Lie W (raw x1) (.slice Xs1 Ns1 zs1_) J3∧Live W J3):=hide (fun W hb=>⟨l3.step hb,f3.live.step hb⟩)
 have HFs1:Hid (J3.Nodup∧(∀ g∈J3,w2.heap.size≤g)∧∀ g∈J3,g < w3.heap.size):=hide ⟨f3.nodup,f3.low,fun g hg=>f3.live.lt g hg⟩
 clear l3 f3
 go_wp2_with fail
 refine (HSPEC2.out [.slice As0_0 ms0_0 cs0_0,.slice As0_1 ms0_1 cs0_1,.slice As0_2 ms0_2 cs0_2] J2 (.slice Xs1 Ns1 zs1_) J3 w3 (HLs0.out w3 ds03.out).1 (HLs1.out w3 (Below.refl _ _)).1).mono ?_
 rintro e w4 ⟨r0_4,J0_4,rfl,l0_4,f0_4,b4⟩
 have dA4:=hide (dA3.out.trans (b4.mono dA3.out.size))
 have ds04:=hide (ds03.out.trans (b4.mono ds03.out.size))
 have ds14:=hide b4
 have z4:=hide b4.size
 clear b4
 clear f0_4
 obtain ⟨Xw0,Nw0,zw0_,rfl⟩:∃ X y z,r0_4=.slice X y z:=by obtain ⟨X,z,e,_,_⟩:=l0_4.form; exact ⟨_,_,_,e⟩
 have HLw0:Hid (∀ W,Below w4.heap.size w4 W→Lie W (Go.Proofs.YtgaadpkefncnmaaGreatDoor.names R0) (.slice Xw0 Nw0 zw0_) J0_4∧True):=hide (fun W hb=>⟨l0_4.step hb,trivial⟩)
 clear l0_4
 have y0_0:=(HBA0.out w4 dA4.out).cell (j:=0) rfl
 have y0_1:=(HBA0.out w4 dA4.out).cell (j:=1) rfl
 have y0_2:=(HBA0.out w4 dA4.out).cell (j:=2) rfl
 go_wp2_with fail
 refine (dtoStore x0 [.slice A0_0 m0_0 c0_0,.slice A0_1 m0_1 c0_1,.slice A0_2 m0_2 c0_2] E0 w4 (HA0.out w4 dA4.out) HK0.out).mono ?_
 rintro e w5 ⟨t5,J5,rfl,l5,f5,b5⟩
 clear y0_0 y0_1 y0_2
 have dA5:=hide (dA4.out.trans (b5.mono dA4.out.size))
 have dw05:=hide b5
 have z5:=hide b5.size
 clear b5
 have kd:=l5
 rw [x0.cells_eq] at kd
 obtain ⟨Ax0__0,mx0__0,cx0__0,r0,G0,rfl,q0⟩:=kd.seqs1
 obtain ⟨Ax0__1,mx0__1,cx0__1,r1,G1,rfl,q1⟩:=q0.seqs1
 obtain ⟨Ax0__2,mx0__2,cx0__2,r2,G2,rfl,q2⟩:=q1.seqs1
 obtain rfl:=q2.nil1
 clear kd q0 q1 q2
 have HLx0_:Hid (∀ W,Below w5.heap.size w5 W→Lies W x0.cells [.slice Ax0__0 mx0__0 cx0__0,.slice Ax0__1 mx0__1 cx0__1,.slice Ax0__2 mx0__2 cx0__2] J5∧Live W J5):=hide (fun W hb=>⟨l5.step hb,f5.live.step hb⟩)
 have HFx0_:Hid (J5.Nodup∧(∀ g∈J5,w4.heap.size≤g)∧∀ g∈J5,g < w5.heap.size):=hide ⟨f5.nodup,f5.low,fun g hg=>f5.live.lt g hg⟩
 clear l5 f5
 obtain ⟨wz6,hwz6⟩:∃ W,w5.alloc (.cells #[.slice none 0 0,.slice none 0 0,.slice none 0 0] 32)=W:=⟨_,rfl⟩
 have bz6:Below w5.heap.size w5 wz6:=by rw [← hwz6]; exact ((Below.refl _ _).alloc (by exact Nat.le_refl _) _)
 have bq6_0:Box wz6 (w5.heap.size) 32 [.slice none 0 0,.slice none 0 0,.slice none 0 0]:=by
  rw [← hwz6]
  have hb:=Box.new (w5) [.slice none 0 0,.slice none 0 0,.slice none 0 0] 32
  try simp only [World.size_alloc] at hb
  exact hb
 obtain ⟨w6,hws6_0⟩:∃ W,wz6.setCells (w5.heap.size) 0 [.slice Ax0__0 mx0__0 cx0__0,.slice Ax0__1 mx0__1 cx0__1,.slice Ax0__2 mx0__2 cx0__2]=W:=⟨_,rfl⟩
 have TH6_0:=hide (bq6_0.there (o:=0) (n:=3) (by simp))
 have bu6:=but_sets wz6 (w5.heap.size) [.slice Ax0__0 mx0__0 cx0__0,.slice Ax0__1 mx0__1 cx0__1,.slice Ax0__2 mx0__2 cx0__2] 0
 rw [hws6_0] at bu6
 have bq6_0:Box w6 (w5.heap.size) 32 [.slice Ax0__0 mx0__0 cx0__0,.slice Ax0__1 mx0__1 cx0__1,.slice Ax0__2 mx0__2 cx0__2]:=by have:=bq6_0.sets (vs:=[.slice Ax0__0 mx0__0 cx0__0,.slice Ax0__1 mx0__1 cx0__1,.slice Ax0__2 mx0__2 cx0__2]) (o:=0); rw [hws6_0] at this; exact this
 have bz6:Below w5.heap.size w5 w6:=bu6.below bz6 (fun g hg=>by have:=List.mem_singleton.1 hg; omega) bz6.size
 clear bu6
 have HWS6_0:=hide hws6_0
 have ON6_0:Hid ((#[.slice Ax0__0 mx0__0 cx0__0,.slice Ax0__1 mx0__1 cx0__1,.slice Ax0__2 mx0__2 cx0__2]:Array Value).all (·.oneCell')=true):=hide (by simp [Value.oneCell'])
 clear hws6_0
 have HWZ6:=hide hwz6
 clear hwz6
 have b6:=bz6
 clear bz6
 have HXx0_:Hid (∀ W,Below w6.heap.size w6 W→Box W (w5.heap.size) 32 [.slice Ax0__0 mx0__0 cx0__0,.slice Ax0__1 mx0__1 cx0__1,.slice Ax0__2 mx0__2 cx0__2]):=hide (fun W hb=>bq6_0.step hb)
 clear bq6_0
 have dA6:=hide (dA5.out.trans (b6.mono dA5.out.size))
 have dw06:=hide (dw05.out.trans (b6.mono dw05.out.size))
 have dx0_6:=hide b6
 have z6:=hide b6.size
 go_wp2_with (first
   | ((with_reducible refine at_store 32 ?_); rw [HWZ6.out]; refine wpList_store_mid rfl _ _ _ rfl (w5.heap.size) 0 #[.slice Ax0__0 mx0__0 cx0__0,.slice Ax0__1 mx0__1 cx0__1,.slice Ax0__2 mx0__2 cx0__2] rfl rfl TH6_0.out (by kernel_rfl) ON6_0.out ?_; change wpList _ _ _ _ _ (wz6.setCells (w5.heap.size) 0 [.slice Ax0__0 mx0__0 cx0__0,.slice Ax0__1 mx0__1 cx0__1,.slice Ax0__2 mx0__2 cx0__2]); rw [HWS6_0.out]))
 refine (dtoRaw x1 (.slice A1 n1 c1_) E1 w6 (HA1.out w6 dA6.out) HK1.out).mono ?_
 rintro e w7 ⟨t7,J7,rfl,l7,f7,b7⟩
 have dA7:=hide (dA6.out.trans (b7.mono dA6.out.size))
 have dw07:=hide (dw06.out.trans (b7.mono dw06.out.size))
 have dx0_7:=hide (dx0_6.out.trans (b7.mono dx0_6.out.size))
 have dx0_b7:=hide b7
 have z7:=hide b7.size
 clear b7
 obtain ⟨Xx1_,Nx1_,zx1__,rfl⟩:∃ X y z,t7=.slice X y z:=by obtain ⟨X,z,e,_,_⟩:=l7.form; exact ⟨_,_,_,e⟩
 have HLx1_:Hid (∀ W,Below w7.heap.size w7 W→Lie W (raw x1) (.slice Xx1_ Nx1_ zx1__) J7∧Live W J7):=hide (fun W hb=>⟨l7.step hb,f7.live.step hb⟩)
 have HFx1_:Hid (J7.Nodup∧(∀ g∈J7,w6.heap.size≤g)∧∀ g∈J7,g < w7.heap.size):=hide ⟨f7.nodup,f7.low,fun g hg=>f7.live.lt g hg⟩
 clear l7 f7
 have yox0__0:=(HXx0_.out w7 dx0_b7.out).cell (j:=0) rfl
 have yox0__1:=(HXx0_.out w7 dx0_b7.out).cell (j:=1) rfl
 have yox0__2:=(HXx0_.out w7 dx0_b7.out).cell (j:=2) rfl
 go_wp2_with fail
 refine (HIMPL2.out [.slice Ax0__0 mx0__0 cx0__0,.slice Ax0__1 mx0__1 cx0__1,.slice Ax0__2 mx0__2 cx0__2] J5 (.slice Xx1_ Nx1_ zx1__) J7 w7 (HLx0_.out w7 dx0_7.out).1 (HLx1_.out w7 (Below.refl _ _)).1 (HTB.out.step (HB.out.trans (dA7.out.mono HB.out.size)))).mono ?_
 rintro e w8 ⟨r0_8,J0_8,rfl,l0_8,f8,b8⟩
 clear yox0__0 yox0__1 yox0__2
 have dA8:=hide (dA7.out.trans (b8.mono dA7.out.size))
 have dw08:=hide (dw07.out.trans (b8.mono dw07.out.size))
 have dx0_8:=hide (dx0_7.out.trans (b8.mono dx0_7.out.size))
 have dx0_b8:=hide (dx0_b7.out.trans (b8.mono dx0_b7.out.size))
 have dx1_8:=hide b8
 have z8:=hide b8.size
 clear b8
 have f0_8:=f8
 obtain ⟨Xg0,Ng0,zg0_,rfl⟩:∃ X y z,r0_8=.slice X y z:=by obtain ⟨X,z,e,_,_⟩:=l0_8.form; exact ⟨_,_,_,e⟩
 have HLg0:Hid (∀ W,Below w8.heap.size w8 W→Lie W (Go.Proofs.YtgaadpkefncnmaaGreatDoor.names R0) (.slice Xg0 Ng0 zg0_) J0_8∧Live W J0_8):=hide (fun W hb=>⟨l0_8.step hb,f0_8.live.step hb⟩)
 have HFg0:Hid (J0_8.Nodup∧(∀ g∈J0_8,w7.heap.size≤g)∧∀ g∈J0_8,g < w8.heap.size):=hide ⟨f0_8.nodup,f0_8.low,fun g hg=>f0_8.live.lt g hg⟩
 clear l0_8 f0_8
 go_wp2_with fail
 refine (deqNames R0 (.slice Xg0 Ng0 zg0_) (.slice Xw0 Nw0 zw0_) _ _ w8 (HLg0.out w8 (Below.refl _ _)).1 (HLw0.out w8 dw08.out).1).mono ?_
 rintro e w9 ⟨rfl,b9⟩
 have dA9:=hide (dA8.out.trans (b9.mono dA8.out.size))
 have dw09:=hide (dw08.out.trans (b9.mono dw08.out.size))
 have dx0_9:=hide (dx0_8.out.trans (b9.mono dx0_8.out.size))
 have dx0_b9:=hide (dx0_b8.out.trans (b9.mono dx0_b8.out.size))
 have dx1_9:=hide (dx1_8.out.trans (b9.mono dx1_8.out.size))
 have dg09:=hide b9
 have z9:=hide b9.size
 clear b9
 go_upto_region 13 with (fail)
 have yox0__0:=(HXx0_.out w9 dx0_b9.out).cell (j:=0) rfl
 have yox0__1:=(HXx0_.out w9 dx0_b9.out).cell (j:=1) rfl
 have yox0__2:=(HXx0_.out w9 dx0_b9.out).cell (j:=2) rfl
 have y0_0:=(HBA0.out w9 dA9.out).cell (j:=0) rfl
 have y0_1:=(HBA0.out w9 dA9.out).cell (j:=1) rfl
 have y0_2:=(HBA0.out w9 dA9.out).cell (j:=2) rfl
 have HDR:=hide (show Below w9.heap.size w9 w9.drew from (Below.refl _ _).drew)
 go_cut [42] (fun v wx=>v=.bool false∧Below w9.heap.size w9 wx)
 case first =>
  go_region_with (first
   | (go_at_call 17; refine (dtoStore x0 [.slice A0_0 m0_0 c0_0,.slice A0_1 m0_1 c0_1,.slice A0_2 m0_2 c0_2] E0 w9.drew (HA0.out _ (dA9.out.trans (HDR.out.mono dA9.out.size))) HK0.out).mono ?_; rintro e w7 ⟨t7,J7,rfl,l7,f7,b7⟩; have yox0__0:=(HXx0_.out _ ((dx0_b9.out.trans (HDR.out.mono dx0_b9.out.size)).trans (b7.mono (dx0_b9.out.trans (HDR.out.mono dx0_b9.out.size)).size))).cell (j:=0) rfl; have yox0__1:=(HXx0_.out _ ((dx0_b9.out.trans (HDR.out.mono dx0_b9.out.size)).trans (b7.mono (dx0_b9.out.trans (HDR.out.mono dx0_b9.out.size)).size))).cell (j:=1) rfl; have yox0__2:=(HXx0_.out _ ((dx0_b9.out.trans (HDR.out.mono dx0_b9.out.size)).trans (b7.mono (dx0_b9.out.trans (HDR.out.mono dx0_b9.out.size)).size))).cell (j:=2) rfl; have y0_0:=(HBA0.out _ ((dA9.out.trans (HDR.out.mono dA9.out.size)).trans (b7.mono (dA9.out.trans (HDR.out.mono dA9.out.size)).size))).cell (j:=0) rfl; have y0_1:=(HBA0.out _ ((dA9.out.trans (HDR.out.mono dA9.out.size)).trans (b7.mono (dA9.out.trans (HDR.out.mono dA9.out.size)).size))).cell (j:=1) rfl; have y0_2:=(HBA0.out _ ((dA9.out.trans (HDR.out.mono dA9.out.size)).trans (b7.mono (dA9.out.trans (HDR.out.mono dA9.out.size)).size))).cell (j:=2) rfl)
   | (go_at_call 20; refine (deqStore x0 [.slice Ax0__0 mx0__0 cx0__0,.slice Ax0__1 mx0__1 cx0__1,.slice Ax0__2 mx0__2 cx0__2] _ _ J7 w7 (HLx0_.out _ ((dx0_9.out.trans (HDR.out.mono dx0_9.out.size)).trans (b7.mono (dx0_9.out.trans (HDR.out.mono dx0_9.out.size)).size))).1 l7).mono ?_; rintro e w8 ⟨rfl,b8⟩))
  all_goals
   have hfin:=HDR.out.trans (b7.trans (b8.mono b7.size) |>.mono HDR.out.size)
   have HF:=hide hfin
   clear hfin
   go_wp2
   go_meet
   exact ⟨rfl,HF.out⟩
 case rest =>
  clear HDR yox0__0 yox0__1 yox0__2 y0_0 y0_1 y0_2
  obtain ⟨rfl,b10⟩:=hcut
  obtain ⟨w10,hwc⟩:∃ W,W=wc:=⟨_,rfl⟩
  subst hwc
  have dA10:=hide (dA9.out.trans (b10.mono dA9.out.size))
  have dw010:=hide (dw09.out.trans (b10.mono dw09.out.size))
  have dx0_10:=hide (dx0_9.out.trans (b10.mono dx0_9.out.size))
  have dx0_b10:=hide (dx0_b9.out.trans (b10.mono dx0_b9.out.size))
  have dx1_10:=hide (dx1_9.out.trans (b10.mono dx1_9.out.size))
  have dg010:=hide (dg09.out.trans (b10.mono dg09.out.size))
  have z10:=hide b10.size
  clear b10
  go_wp2_with fail
  refine (dtoRaw x1 (.slice A1 n1 c1_) E1 w10 (HA1.out w10 dA10.out) HK1.out).mono ?_
  rintro e w11 ⟨t11,J11,rfl,l11,f11,b11⟩
  have dA11:=hide (dA10.out.trans (b11.mono dA10.out.size))
  have dw011:=hide (dw010.out.trans (b11.mono dw010.out.size))
  have dx0_11:=hide (dx0_10.out.trans (b11.mono dx0_10.out.size))
  have dx0_b11:=hide (dx0_b10.out.trans (b11.mono dx0_b10.out.size))
  have dx1_11:=hide (dx1_10.out.trans (b11.mono dx1_10.out.size))
  have dg011:=hide (dg010.out.trans (b11.mono dg010.out.size))
  have z11:=hide b11.size
  clear b11
  obtain ⟨Xt1,Nt1,zt1_,rfl⟩:∃ X y z,t11=.slice X y z:=by obtain ⟨X,z,e,_,_⟩:=l11.form; exact ⟨_,_,_,e⟩
  have HLt1:Hid (∀ W,Below w11.heap.size w11 W→Lie W (raw x1) (.slice Xt1 Nt1 zt1_) J11∧Live W J11):=hide (fun W hb=>⟨l11.step hb,f11.live.step hb⟩)
  have HFt1:Hid (J11.Nodup∧(∀ g∈J11,w10.heap.size≤g)∧∀ g∈J11,g < w11.heap.size):=hide ⟨f11.nodup,f11.low,fun g hg=>f11.live.lt g hg⟩
  clear l11 f11
  go_wp2_with fail
  refine (deqRaw x1 (.slice Xx1_ Nx1_ zx1__) (.slice Xt1 Nt1 zt1_) _ _ w11 (HLx1_.out w11 dx1_11.out).1 (HLt1.out w11 (Below.refl _ _)).1).mono ?_
  rintro e w12 ⟨rfl,b12⟩
  have dA12:=hide (dA11.out.trans (b12.mono dA11.out.size))
  have dw012:=hide (dw011.out.trans (b12.mono dw011.out.size))
  have dx0_12:=hide (dx0_11.out.trans (b12.mono dx0_11.out.size))
  have dx0_b12:=hide (dx0_b11.out.trans (b12.mono dx0_b11.out.size))
  have dx1_12:=hide (dx1_11.out.trans (b12.mono dx1_11.out.size))
  have dg012:=hide (dg011.out.trans (b12.mono dg011.out.size))
  have dt112:=hide b12
  have z12:=hide b12.size
  clear b12
  have yox0__0:=(HXx0_.out w12 dx0_b12.out).cell (j:=0) rfl
  have yox0__1:=(HXx0_.out w12 dx0_b12.out).cell (j:=1) rfl
  have yox0__2:=(HXx0_.out w12 dx0_b12.out).cell (j:=2) rfl
  go_wp2_with fail
  refine (dmarkStore x0 [.slice Ax0__0 mx0__0 cx0__0,.slice Ax0__1 mx0__1 cx0__1,.slice Ax0__2 mx0__2 cx0__2] J5 (1) w12 (HLx0_.out w12 dx0_12.out).1 HFx0_.out.1 (HLx0_.out w12 dx0_12.out).2 (by omega) (by rw [HC0.out]; omega)).mono ?_
  rintro e w13 ⟨rfl,l13,v13,m13⟩
  rw [HC0.out]
  clear yox0__0 yox0__1 yox0__2
  have b13:=m13.size
  have lowF:=HFx0_.out.2.1
  have highF:=HFx0_.out.2.2
  have dA13:=hide (m13.below dA12.out (fun g hg=>by have h1:=lowF g hg; have:=z1.out; have:=z2.out; have:=z3.out; have:=z4.out; have:=z5.out; have:=z6.out; have:=z7.out; have:=z8.out; have:=z9.out; have:=z10.out; have:=z11.out; have:=z12.out; omega) dA12.out.size)
  have dw013:=hide (m13.below dw012.out (fun g hg=>by have h1:=lowF g hg; have:=z1.out; have:=z2.out; have:=z3.out; have:=z4.out; have:=z5.out; have:=z6.out; have:=z7.out; have:=z8.out; have:=z9.out; have:=z10.out; have:=z11.out; have:=z12.out; omega) dw012.out.size)
  have mv13x1_:=HLx1_.out w12 dx1_12.out
  have hi13x1_:=HFx1_.out
  have ml13:=mv13x1_.1.but m13 (fun g hg hc=>by have h1:=highF g hc; have h2:=hi13x1_.2.1 g hg; have:=z1.out; have:=z2.out; have:=z3.out; have:=z4.out; have:=z5.out; have:=z6.out; have:=z7.out; have:=z8.out; have:=z9.out; have:=z10.out; have:=z11.out; have:=z12.out; omega)
  have mw13:=mv13x1_.2.but m13 (fun g hg hc=>by have h1:=highF g hc; have h2:=hi13x1_.2.1 g hg; have:=z1.out; have:=z2.out; have:=z3.out; have:=z4.out; have:=z5.out; have:=z6.out; have:=z7.out; have:=z8.out; have:=z9.out; have:=z10.out; have:=z11.out; have:=z12.out; omega)
  have HLx1_:Hid (∀ W,Below w13.heap.size w13 W→Lie W (raw x1) (.slice Xx1_ Nx1_ zx1__) J7∧Live W J7):=hide (fun W hb=>⟨ml13.step hb,mw13.step hb⟩)
  clear mv13x1_ ml13 mw13 hi13x1_
  have mv13g0:=HLg0.out w12 dg012.out
  have hi13g0:=HFg0.out
  have ml13:=mv13g0.1.but m13 (fun g hg hc=>by have h1:=highF g hc; have h2:=hi13g0.2.1 g hg; have:=z1.out; have:=z2.out; have:=z3.out; have:=z4.out; have:=z5.out; have:=z6.out; have:=z7.out; have:=z8.out; have:=z9.out; have:=z10.out; have:=z11.out; have:=z12.out; omega)
  have mw13:=mv13g0.2.but m13 (fun g hg hc=>by have h1:=highF g hc; have h2:=hi13g0.2.1 g hg; have:=z1.out; have:=z2.out; have:=z3.out; have:=z4.out; have:=z5.out; have:=z6.out; have:=z7.out; have:=z8.out; have:=z9.out; have:=z10.out; have:=z11.out; have:=z12.out; omega)
  have HLg0:Hid (∀ W,Below w13.heap.size w13 W→Lie W (Go.Proofs.YtgaadpkefncnmaaGreatDoor.names R0) (.slice Xg0 Ng0 zg0_) J0_8∧Live W J0_8):=hide (fun W hb=>⟨ml13.step hb,mw13.step hb⟩)
  clear mv13g0 ml13 mw13 hi13g0
  have z13:=hide b13
  clear b13 lowF highF l13 v13 m13
  go_wp2_with fail
  refine (dmarkRaw x1 (.slice Xx1_ Nx1_ zx1__) J7 (1 + (C0:Int)) w13 (HLx1_.out w13 (Below.refl _ _)).1 HFx1_.out.1 (HLx1_.out w13 (Below.refl _ _)).2 (by omega) (by rw [HC1.out]; omega)).mono ?_
  rintro e w14 ⟨rfl,l14,v14,m14⟩
  rw [HC1.out]
  have b14:=m14.size
  have lowF:=HFx1_.out.2.1
  have highF:=HFx1_.out.2.2
  have dA14:=hide (m14.below dA13.out (fun g hg=>by have h1:=lowF g hg; have:=z1.out; have:=z2.out; have:=z3.out; have:=z4.out; have:=z5.out; have:=z6.out; have:=z7.out; have:=z8.out; have:=z9.out; have:=z10.out; have:=z11.out; have:=z12.out; have:=z13.out; omega) dA13.out.size)
  have dw014:=hide (m14.below dw013.out (fun g hg=>by have h1:=lowF g hg; have:=z1.out; have:=z2.out; have:=z3.out; have:=z4.out; have:=z5.out; have:=z6.out; have:=z7.out; have:=z8.out; have:=z9.out; have:=z10.out; have:=z11.out; have:=z12.out; have:=z13.out; omega) dw013.out.size)
  have mv14g0:=HLg0.out w13 (Below.refl _ _)
  have hi14g0:=HFg0.out
  have ml14:=mv14g0.1.but m14 (fun g hg hc=>by have h1:=highF g hc; have h2:=hi14g0.2.1 g hg; have:=z1.out; have:=z2.out; have:=z3.out; have:=z4.out; have:=z5.out; have:=z6.out; have:=z7.out; have:=z8.out; have:=z9.out; have:=z10.out; have:=z11.out; have:=z12.out; have:=z13.out; omega)
  have mw14:=mv14g0.2.but m14 (fun g hg hc=>by have h1:=highF g hc; have h2:=hi14g0.2.1 g hg; have:=z1.out; have:=z2.out; have:=z3.out; have:=z4.out; have:=z5.out; have:=z6.out; have:=z7.out; have:=z8.out; have:=z9.out; have:=z10.out; have:=z11.out; have:=z12.out; have:=z13.out; omega)
  have HLg0:Hid (∀ W,Below w14.heap.size w14 W→Lie W (Go.Proofs.YtgaadpkefncnmaaGreatDoor.names R0) (.slice Xg0 Ng0 zg0_) J0_8∧Live W J0_8):=hide (fun W hb=>⟨ml14.step hb,mw14.step hb⟩)
  clear mv14g0 ml14 mw14 hi14g0
  have z14:=hide b14
  clear b14 lowF highF l14 v14 m14
  have gk:¬ (1 + (C0:Int) + (C1:Int) < 0):=by omega
  go_wp2_with fail
  refine (deqNames R0 (.slice Xg0 Ng0 zg0_) (.slice Xw0 Nw0 zw0_) _ _ w14 (HLg0.out w14 (Below.refl _ _)).1 (HLw0.out w14 dw014.out).1).mono ?_
  rintro e w15 ⟨rfl,b15⟩
  have dA15:=hide (dA14.out.trans (b15.mono dA14.out.size))
  have dw015:=hide (dw014.out.trans (b15.mono dw014.out.size))
  have dg015:=hide b15
  have z15:=hide b15.size
  clear b15
  go_wp2_with fail
  refine (dmarkNames R0 (.slice Xg0 Ng0 zg0_) J0_8 (1) w15 (HLg0.out w15 dg015.out).1 HFg0.out.1 (HLg0.out w15 dg015.out).2 (by omega) (by rw [HCR0.out]; omega)).mono ?_
  rintro e w16 ⟨rfl,l16,v16,m16⟩
  rw [HCR0.out]
  have b16:=m16.size
  have lowF:=HFg0.out.2.1
  have highF:=HFg0.out.2.2
  have dA16:=hide (m16.below dA15.out (fun g hg=>by have h1:=lowF g hg; have:=z1.out; have:=z2.out; have:=z3.out; have:=z4.out; have:=z5.out; have:=z6.out; have:=z7.out; have:=z8.out; have:=z9.out; have:=z10.out; have:=z11.out; have:=z12.out; have:=z13.out; have:=z14.out; have:=z15.out; omega) dA15.out.size)
  have dw016:=hide (m16.below dw015.out (fun g hg=>by have h1:=lowF g hg; have:=z1.out; have:=z2.out; have:=z3.out; have:=z4.out; have:=z5.out; have:=z6.out; have:=z7.out; have:=z8.out; have:=z9.out; have:=z10.out; have:=z11.out; have:=z12.out; have:=z13.out; have:=z14.out; have:=z15.out; omega) dw015.out.size)
  have HMg0:Hid (∀ W,Below w16.heap.size w16 W→Lie W ((Go.Proofs.YtgaadpkefncnmaaGreatDoor.names R0).mk (1)) (.slice Xg0 Ng0 zg0_) J0_8):=hide (fun W hb=>l16.step hb)
  have z16:=hide b16
  clear b16 lowF highF l16 v16 m16
  have hcall:=dheldNames R0 (.slice Xg0 Ng0 zg0_) J0_8 (1) w16 (HMg0.out w16 (Below.refl _ _)) (by omega) (by rw [HCR0.out]; omega)
  rw [HCR0.out] at hcall
  have gh16:¬ (1 + (CR0:Int) < 0):=by omega
  have HCALL:=hide hcall
  clear hcall
  go_wp2_with fail
  refine (HCALL.out).mono ?_
  rintro e w17 ⟨rfl,b17⟩
  have dA17:=hide (dA16.out.trans (b17.mono dA16.out.size))
  have dw017:=hide (dw016.out.trans (b17.mono dw016.out.size))
  have dg017:=hide b17
  have z17:=hide b17.size
  clear b17
  clear HCALL
  have ge17:((1 + (CR0:Int)) != 1 + (CR0:Int))=false:=by simp
  have y0_0:=(HBA0.out w17 dA17.out).cell (j:=0) rfl
  have y0_1:=(HBA0.out w17 dA17.out).cell (j:=1) rfl
  have y0_2:=(HBA0.out w17 dA17.out).cell (j:=2) rfl
  go_wp2_with fail
  refine (dtoStore x0 [.slice A0_0 m0_0 c0_0,.slice A0_1 m0_1 c0_1,.slice A0_2 m0_2 c0_2] E0 w17 (HA0.out w17 dA17.out) HK0.out).mono ?_
  rintro e w18 ⟨t18,J18,rfl,l18,f18,b18⟩
  clear y0_0 y0_1 y0_2
  have dA18:=hide (dA17.out.trans (b18.mono dA17.out.size))
  have dw018:=hide (dw017.out.trans (b18.mono dw017.out.size))
  have dg018:=hide (dg017.out.trans (b18.mono dg017.out.size))
  have z18:=hide b18.size
  clear b18
  have kd:=l18
  rw [x0.cells_eq] at kd
  obtain ⟨Ah0__0,mh0__0,ch0__0,r0,G0,rfl,q0⟩:=kd.seqs1
  obtain ⟨Ah0__1,mh0__1,ch0__1,r1,G1,rfl,q1⟩:=q0.seqs1
  obtain ⟨Ah0__2,mh0__2,ch0__2,r2,G2,rfl,q2⟩:=q1.seqs1
  obtain rfl:=q2.nil1
  clear kd q0 q1 q2
  have HLh0_:Hid (∀ W,Below w18.heap.size w18 W→Lies W x0.cells [.slice Ah0__0 mh0__0 ch0__0,.slice Ah0__1 mh0__1 ch0__1,.slice Ah0__2 mh0__2 ch0__2] J18∧Live W J18):=hide (fun W hb=>⟨l18.step hb,f18.live.step hb⟩)
  have HFh0_:Hid (J18.Nodup∧(∀ g∈J18,w17.heap.size≤g)∧∀ g∈J18,g < w18.heap.size):=hide ⟨f18.nodup,f18.low,fun g hg=>f18.live.lt g hg⟩
  clear l18 f18
  go_wp2_with fail
  refine (dtoRaw x1 (.slice A1 n1 c1_) E1 w18 (HA1.out w18 dA18.out) HK1.out).mono ?_
  rintro e w19 ⟨t19,J19,rfl,l19,f19,b19⟩
  have dA19:=hide (dA18.out.trans (b19.mono dA18.out.size))
  have dw019:=hide (dw018.out.trans (b19.mono dw018.out.size))
  have dg019:=hide (dg018.out.trans (b19.mono dg018.out.size))
  have dh0_19:=hide b19
  have z19:=hide b19.size
  clear b19
  obtain ⟨Xh1_,Nh1_,zh1__,rfl⟩:∃ X y z,t19=.slice X y z:=by obtain ⟨X,z,e,_,_⟩:=l19.form; exact ⟨_,_,_,e⟩
  have HLh1_:Hid (∀ W,Below w19.heap.size w19 W→Lie W (raw x1) (.slice Xh1_ Nh1_ zh1__) J19∧Live W J19):=hide (fun W hb=>⟨l19.step hb,f19.live.step hb⟩)
  have HFh1_:Hid (J19.Nodup∧(∀ g∈J19,w18.heap.size≤g)∧∀ g∈J19,g < w19.heap.size):=hide ⟨f19.nodup,f19.low,fun g hg=>f19.live.lt g hg⟩
  clear l19 f19
  go_wp2_with fail
  refine (HIMPL2.out [.slice Ah0__0 mh0__0 ch0__0,.slice Ah0__1 mh0__1 ch0__1,.slice Ah0__2 mh0__2 ch0__2] J18 (.slice Xh1_ Nh1_ zh1__) J19 w19 (HLh0_.out w19 dh0_19.out).1 (HLh1_.out w19 (Below.refl _ _)).1 (HTB.out.step (HB.out.trans (dA19.out.mono HB.out.size)))).mono ?_
  rintro e w20 ⟨r0_20,J0_20,rfl,l0_20,f20,b20⟩
  have dA20:=hide (dA19.out.trans (b20.mono dA19.out.size))
  have dw020:=hide (dw019.out.trans (b20.mono dw019.out.size))
  have dg020:=hide (dg019.out.trans (b20.mono dg019.out.size))
  have dh0_20:=hide (dh0_19.out.trans (b20.mono dh0_19.out.size))
  have dh1_20:=hide b20
  have z20:=hide b20.size
  clear b20
  have f0_20:=f20
  obtain ⟨Xh0,Nh0,zh0_,rfl⟩:∃ X y z,r0_20=.slice X y z:=by obtain ⟨X,z,e,_,_⟩:=l0_20.form; exact ⟨_,_,_,e⟩
  have HLh0:Hid (∀ W,Below w20.heap.size w20 W→Lie W (Go.Proofs.YtgaadpkefncnmaaGreatDoor.names R0) (.slice Xh0 Nh0 zh0_) J0_20∧Live W J0_20):=hide (fun W hb=>⟨l0_20.step hb,f0_20.live.step hb⟩)
  have HFh0:Hid (J0_20.Nodup∧(∀ g∈J0_20,w19.heap.size≤g)∧∀ g∈J0_20,g < w20.heap.size):=hide ⟨f0_20.nodup,f0_20.low,fun g hg=>f0_20.live.lt g hg⟩
  clear l0_20 f0_20
  go_wp2_with fail
  refine (deqNames R0 (.slice Xh0 Nh0 zh0_) (.slice Xw0 Nw0 zw0_) _ _ w20 (HLh0.out w20 (Below.refl _ _)).1 (HLw0.out w20 dw020.out).1).mono ?_
  rintro e w21 ⟨rfl,b21⟩
  have dA21:=hide (dA20.out.trans (b21.mono dA20.out.size))
  have dw021:=hide (dw020.out.trans (b21.mono dw020.out.size))
  have dg021:=hide (dg020.out.trans (b21.mono dg020.out.size))
  have dh021:=hide b21
  have z21:=hide b21.size
  clear b21
  have hcall:=dheldNames R0 (.slice Xg0 Ng0 zg0_) J0_8 (1) w21 (HMg0.out w21 dg021.out) (by omega) (by rw [HCR0.out]; omega)
  rw [HCR0.out] at hcall
  have gh21:¬ (1 + (CR0:Int) < 0):=by omega
  have HCALL:=hide hcall
  clear hcall
  go_wp2_with fail
  refine (HCALL.out).mono ?_
  rintro e w22 ⟨rfl,b22⟩
  have dA22:=hide (dA21.out.trans (b22.mono dA21.out.size))
  have dw022:=hide (dw021.out.trans (b22.mono dw021.out.size))
  have dg022:=hide (dg021.out.trans (b22.mono dg021.out.size))
  have z22:=hide b22.size
  clear b22
  clear HCALL
  have ge22:((1 + (CR0:Int)) != 1 + (CR0:Int))=false:=by simp
  go_wp2_with fail
  go_ret
  exact ⟨rfl,HB.out.trans (dA22.out.mono HB.out.size)⟩
end Go.Proofs.YtgaadpkefncnmaaGreatDoor
