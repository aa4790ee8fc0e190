/-
  Parts of the proof: Rune.
-/
import Derived.Test.YtgaadpkefncnmaaGreatDoorMp0
import Derived.Test.YtgaadpkefncnmaaGreatDoorRows
import Derived.Lib.OthersKept
import Derived.BigQuiet
/-
  strings.IndexRune over the thirty-two characters: where a character stands, -1 for every other rune.
-/
namespace Go.Proofs.YtgaadpkefncnmaaGreatDoor
open Go.RowKit
/-- The characters as a string. -/
def abcS:ByteArray:=⟨#[48,49,50,51,52,53,54,55,56,57,97,98,99,100,102,103,104,105,106,107,108,109,110,112,113,114,115,118,119,120,121,122]⟩
theorem abcS_size:abcS.size=32:=rfl
theorem abcS_ascii:∀ b∈abcS.data.toList,b.toNat < 128:=by decide +kernel
/-- The place of a character, from the k-th on. -/
def lfrom (x:Int):Nat→Nat→Int
 | 0,_=>-1
 | f + 1,k=>if ltr k=x then k else lfrom x f (k + 1)
def lidx (x:Int):Int:=lfrom x 32 0
theorem firstIdx_all:∀ n:Fin 256,firstIdx abcS (UInt8.ofNat n.val)=lidx n.val:=by decide +kernel
theorem lidx_all:∀ n:Fin 256,-1≤lidx n.val∧lidx n.val < 32∧(128≤n.val→lidx n.val = -1)∧(0≤lidx n.val→ltr (lidx n.val)=n.val):=by decide +kernel
theorem lidx_facts {x:Int} (h0:0≤x) (h1:x≤255) : -1≤lidx x∧lidx x < 32∧(128≤x→lidx x = -1)∧(0≤lidx x→ltr (lidx x)=x):=by
 obtain ⟨n,rfl⟩:=Int.eq_ofNat_of_zero_le h0
 have h:=lidx_all ⟨n,by omega⟩
 exact ⟨h.1,h.2.1,fun h128=>h.2.2.1 (by show 128≤n; omega),h.2.2.2⟩
theorem ext_indexByte (s:ByteArray) (c:Int) (W:World):(callFunc 275 #[.string s,.int .u8 c]).run Tryz.prog W=.ok (.value (.int .i64 (firstIdx s c.toNat.toUInt8))) W:=by
 rw [run_callFunc_extern Tryz.func275 (by kernel_rfl) (by kernel_rfl) (by kernel_rfl) (e:=Extern.BytealgIndexByte.indexByte) (by kernel_rfl),run_indexByte_string]
 rfl
theorem quiet_more {P:Program} {f:FuncId} {args:Array Value} {w:World} {a n:Nat} {v:Value}
  (h:Calls P f args (w.drewN (a + n)) fun e w'=>e=.returned v∧w.drewN (a + n)=w') :
  Calls P f args (w.drewN (a + n)) fun e w''=>e=.returned v∧∃ m,w'' = w.drewN (a + m) :=
 h.mono fun _ _ ⟨he,hw⟩=>⟨he,n,hw.symm⟩
set_option maxHeartbeats 400000 in
theorem indexByteAny (s:ByteArray) (c:Int) (w:World) :
  Calls Tryz.prog 248 #[.string s,.int .u8 c] w fun e w'=>e=.returned (.int .i64 (firstIdx s c.toNat.toUInt8))∧w=w':=by
 have hx:=ext_indexByte s c
 go_enter Tryz.func248,Tryz.ntmps248
 go_wp2
 go_ret
 exact ⟨rfl,rfl⟩
set_option maxRecDepth 20000 in
set_option maxHeartbeats 800000 in
theorem indexRuneLow (r:Int) (h0:0≤r) (h1:r < 128) (w:World) :
  Calls Tryz.prog 220 #[.string abcS,.int .i32 r] w fun e w'=>e=.returned (.int .i64 (lidx r))∧Below w.heap.size w w':=by
 have e:firstIdx abcS r.toNat.toUInt8=lidx r:=by
  obtain ⟨n,rfl⟩:=Int.eq_ofNat_of_zero_le h0
  exact firstIdx_all ⟨n,by omega⟩
 have HE:=hide e
 clear e
 go_enter Tryz.func220,Tryz.ntmps220
 go_wp2_with fail
 refine (indexByteAny abcS r w).mono ?_
 rintro e w1 ⟨rfl,rfl⟩
 rw [HE.out]
 go_wp2
 go_ret
 exact ⟨rfl,Below.refl _ _⟩
set_option maxRecDepth 20000 in
set_option maxHeartbeats 800000 in
theorem indexRuneBad (r:Int) (h0:128≤r) (h1:r≤2147483647) (hv:Utf8.valid r=false) (w:World) :
  Calls Tryz.prog 220 #[.string abcS,.int .i32 r] w fun e w'=>e=.returned (.int .i64 (-1))∧Below w.heap.size w w':=by
 have hb:(55296≤r∧r≤57343)∨1114111 < r:=by
  simp [Utf8.valid] at hv
  omega
 clear hv
 rcases hb with ⟨h2,h3⟩ | h2
 all_goals
  go_enter Tryz.func220,Tryz.ntmps220
  go_wp2
  go_ret
  exact ⟨rfl,Below.refl _ _⟩
set_option maxRecDepth 20000 in
set_option maxHeartbeats 800000 in
theorem indexRuneErr (w:World) :
  Calls Tryz.prog 220 #[.string abcS,.int .i32 65533] w fun e w'=>e=.returned (.int .i64 (-1))∧Below w.heap.size w w':=by
 go_enter Tryz.func220,Tryz.ntmps220
 go_wp2
 go_loopw [] (fun wr=>∃ pos:Nat,wr.heap[w.heap.size]? = some (.stringIter abcS pos)∧pos≤32∧Below w.heap.size w wr) (fun wr=>32 - wr.iterPos w.heap.size)
 case atStart=>exact ⟨0,by simpa using World.iter_heap w abcS 0,by omega,(Below.refl _ w).alloc (Nat.le_refl _) _⟩
 case round =>
  obtain ⟨pos,hit,hp32,hbw⟩:=hrel
  have hsz:w.heap.size < wr.heap.size:=(Array.getElem?_eq_some_iff.1 hit).1
  by_cases hp:pos < 32
  ·have hps:pos < abcS.size:=hp
   have ha:(abcS[pos]'hps).toNat < 128:=abcS_ascii _ (by
    have:abcS[pos]'hps=abcS.data.toList[pos]'(by simpa using hps):=rfl
    rw [this]
    exact List.getElem_mem _)
   have hnx:∀ ty,(Instr.next (.pointer (some ⟨w.heap.size,0,none⟩)) true ty).run Tryz.prog wr=_:=fun ty=>Lib.run_next_ascii_at wr w.heap.size abcS pos ty hit hps ha
   have hit2:=Lib.iterAt_heap wr w.heap.size abcS pos (pos + 1) hit
   have hbw2:=Lib.below_iterAt hbw (k:=w.heap.size) (by omega) abcS (pos + 1)
   have hm:(wr.iterAt w.heap.size abcS (pos + 1)).iterPos w.heap.size=pos + 1:=iterPos_of hit2
   have hm0:wr.iterPos w.heap.size=pos:=iterPos_of hit
   generalize (abcS[pos]'hps).toNat=q at *
   have HM:=hide hm
   have HM0:=hide hm0
   have HI:=hide hit2
   have HB:=hide hbw2
   clear hm hm0 hit hit2 hbw hbw2
   go_wp2
   go_roundw
   case rel=>exact ⟨pos + 1,HI.out,by omega,HB.out⟩
   case measure=>rw [HM.out,HM0.out]; omega
  ·have hnx:∀ ty,(Instr.next (.pointer (some ⟨w.heap.size,0,none⟩)) true ty).run Tryz.prog wr=_:=fun ty=>Lib.run_next_end_at wr w.heap.size abcS pos ty hit (by rw [abcS_size]; omega)
   have HB:=hide hbw
   clear hit hbw
   go_wp2
   go_ret
   exact ⟨rfl,HB.out⟩
set_option maxRecDepth 20000 in
set_option maxHeartbeats 1600000 in
theorem indexRuneHigh (r:Int) (h0:128≤r) (h1:r≤2147483647) (hne:r≠65533) (hv:Utf8.valid r=true) (w:World) :
  Calls Tryz.prog 220 #[.string abcS,.int .i32 r] w fun e w'=>e=.returned (.int .i64 (-1))∧Below w.heap.size w w':=by
 obtain ⟨e2,e4,elast⟩:=encode_facts r hv h0
 have hb:r < 55296∨(57344≤r∧r≤1114111):=by
  simp [Utf8.valid] at hv
  omega
 generalize hE:Utf8.encode r=E at *
 clear hv
 obtain ⟨m,hm1,hm3,hsz⟩:∃ m,1≤m∧m≤3∧E.size=m + 1:=⟨E.size - 1,by omega,by omega,by omega⟩
 have hmE:m < E.size:=by omega
 obtain ⟨z,hz,z0,z1⟩:∃ z:Int,((E[m]'hmE).toNat:Int)=z∧128≤z∧z≤255:=by
  refine ⟨_,rfl,?_,?_⟩
  ·have:=elast (by omega)
   have e:E[E.size - 1]'(by omega)=E[m]'hmE:=by
    congr 1
    omega
   rw [e] at this
   omega
  ·have:=(E[m]'hmE).toNat_lt
   omega
 clear e2 e4 elast
 have hfi:∀ a b:Nat,firstIdx (abcS.extract a b) z.toNat.toUInt8 = -1:=fun a b=>firstIdx_ascii abcS a b _ abcS_ascii (by
  obtain ⟨n,rfl⟩:=Int.eq_ofNat_of_zero_le (by omega:0≤z)
  rw [Int.toNat_natCast]
  show 128≤(UInt8.ofNat n).toNat
  rw [UInt8.toNat_ofNat']
  omega)
 have ha1:((abcS[1]'(by decide)).toNat:Int)=49:=by decide +kernel
 have ha2:((abcS[2]'(by decide)).toNat:Int)=50:=by decide +kernel
 have ha3:((abcS[3]'(by decide)).toNat:Int)=51:=by decide +kernel
 have n1:((49:Int) != z)=true:=by simp; omega
 have n2:((50:Int) != z)=true:=by simp; omega
 have n3:((51:Int) != z)=true:=by simp; omega
 have has:abcS.size=32:=rfl
 rcases hb with h2 | ⟨h2,h3⟩ <;> rcases (by omega:m=1∨m=2∨m=3) with rfl | rfl | rfl
 all_goals
  go_enter Tryz.func220,Tryz.ntmps220
  go_wp2
  go_step3
  go_wp2
  refine wp_loop_rounds 1 ?_
  rw [rounds_succ]
  go_wp2
  go_step3
  go_wp2
  go_quiet (fail)
  go_wp2
  go_quiet ((go_at_call 248; exact quiet_more (indexByteAny _ _ _)))
  go_wp2
  rw [Exit.noGoto_ret]
  go_wp2
  rw [Exit.noGoto_ret]
  go_ret
  exact ⟨rfl,below_drewN (Below.refl _ _) _⟩
/-- IndexRune over the characters, at every rune that a range over a string gives. -/
theorem indexRune (r:Int) (h0:0≤r) (h1:r≤2147483647) (w:World) :
  Calls Tryz.prog 220 #[.string abcS,.int .i32 r] w fun e w'=>e=.returned (.int .i64 (if r < 128 then lidx r else -1))∧Below w.heap.size w w':=by
 by_cases hl:r < 128
 ·rw [if_pos hl]
  exact indexRuneLow r h0 hl w
 ·rw [if_neg hl]
  by_cases he:r=65533
  ·subst he
   exact indexRuneErr w
  ·by_cases hv:Utf8.valid r=true
   ·exact indexRuneHigh r (by omega) h1 he hv w
   ·exact indexRuneBad r (by omega) h1 (by simpa using hv) w
end Go.Proofs.YtgaadpkefncnmaaGreatDoor
