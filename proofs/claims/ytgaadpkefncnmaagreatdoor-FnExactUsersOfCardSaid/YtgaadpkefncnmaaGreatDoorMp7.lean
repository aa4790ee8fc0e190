/-
  Parts of the proof: EntryQ, NameOk, ShaP, Letter, MentP, NameOkI, NodeP, ShaS, NameOkS, NameQ, NodeB, ShaI, MentS, ShaJ, SortS, ScanS, ScanP.
-/
import Derived.Test.YtgaadpkefncnmaaGreatDoorMp4
import Derived.Test.YtgaadpkefncnmaaGreatDoorMp0
import Derived.Test.YtgaadpkefncnmaaGreatDoorMp5
import Derived.Laws.BytesArg
import Derived.Test.YtgaadpkefncnmaaGreatDoorMp6
import Derived.Lib.IndexMore
import Derived.Lib.IndexBytes
import Derived.Shelf.Bytes.SlIndexWhole
import Derived.Test.YtgaadpkefncnmaaGreatDoorMp1
import Derived.StillTailTactics
import Derived.IntWalk
import Derived.Deep.DeepCutAuto
import Derived.Deep.CutBlock
import Derived.Deep.QuietTactic
import Derived.BigQuiet
import Derived.Deep.Cut
import Derived.Maps.GroupsBeside
/-
  EntryOk leaves the world as it is.
-/
namespace Go.Proofs.YtgaadpkefncnmaaGreatDoor
open Go.RowKit
set_option linter.unusedVariables false
set_option maxRecDepth 20000 in
set_option maxHeartbeats 1600000 in
theorem specEntryQ (l:List Int) (hB:Byt l) (v:Value) (w:World) (hv:Rd w v (bs l)) :
  Calls Tryz.prog 159 #[v] w fun e w'=>e=.returned (.bool (entryOk l))∧w=w':=by
 obtain ⟨A,c,rfl,hc1,hc2,hrd⟩:=hv
 rw [bs_length] at *
 unfold maxLen at hc2
 obtain ⟨R,hR⟩:∃ R,entryOk l=R:=⟨_,rfl⟩
 rw [hR]
 rcases (by omega:l.length=0∨8 < l.length∨(1≤l.length∧l.length≤8)) with h0 | h9 | ⟨h1,h8⟩
 ·rw [entryOk_out (by omega)] at hR
  subst hR
  clear hrd
  go_enter Tryz.func159,Tryz.ntmps159
  go_wp2
  go_ret
  exact ⟨rfl,rfl⟩
 ·rw [entryOk_out (by omega)] at hR
  subst hR
  clear hrd
  go_enter Tryz.func159,Tryz.ntmps159
  go_wp2
  go_ret
  exact ⟨rfl,rfl⟩
 ·obtain ⟨b,off,rfl,hblt,hcell⟩:=hrd (by omega)
  have hfst:w.cell? ⟨b,off,none⟩=some (.int .u8 (l.getD 0 0)):=by
   have:=hcell 0 _ (bs_get (by omega))
   simpa using this
  by_cases h46:l.getD 0 0=46
  ·rw [entryOk_out (by omega)] at hR
   rw [h46] at hfst
   subst hR
   clear hrd hcell h46
   go_enter Tryz.func159,Tryz.ntmps159
   go_wp2
   go_ret
   exact ⟨rfl,rfl⟩
  ·rw [entryOk_in ⟨h1,h8,h46⟩] at hR
   obtain ⟨z0,hz0⟩:∃ z0,l.getD 0 0=z0:=⟨_,rfl⟩
   rw [hz0] at hfst h46
   have hne:(z0 == 46)=false:=by simpa using h46
   have HR:=hide hR
   have HC:=hide hcell
   clear hR hrd hcell hz0 h46
   go_enter Tryz.func159,Tryz.ntmps159
   go_wp2
   go_loopw [3] (fun i wr=>∃ k:Nat,k≤l.length∧i=.int .i64 k∧Hid (entryFrom l k=R)∧w=wr) (fun i _=>l.length - (intOf i).toNat)
   case atStart=>exact ⟨0,by omega,rfl,HR,rfl⟩
   case round =>
    obtain ⟨k,hk,rfl,hx,hww⟩:=hrel
    subst hww
    by_cases hlt:k < l.length
    ·have hin:w.cell? ⟨b,off + k,none⟩=some (.int .u8 (l.getD k 0)):=HC.out k _ (bs_get hlt)
     have hm:=entryFrom_more hlt
     obtain ⟨y0,y1⟩:=hB.at_ k
     generalize l.getD k 0=y at *
     clear hfst hne
     rcases (by omega:(97≤y∧y≤122)∨(48≤y∧y≤57)∨y=46∨y=45∨y < 45∨y=47∨(57 < y∧y < 97)∨122 < y) with hy | hy | hy | hy | hy | hy | hy | hy
     ·have hm2:entryFrom l k=entryFrom l (k + 1):=by rw [hm,entryChar,decide_eq_true (by omega),Bool.true_and]
      have HM:=hide hm2
      clear hm hm2
      obtain ⟨y2,y3⟩:=hy
      go_wp2
      go_roundw
      case rel=>exact ⟨k + 1,by omega,by go_num,hide (by rw [← hx.out,HM.out]),trivial⟩
      case measure=>simp [intOf]; omega
     ·have hm2:entryFrom l k=entryFrom l (k + 1):=by rw [hm,entryChar,decide_eq_true (by omega),Bool.true_and]
      have HM:=hide hm2
      clear hm hm2
      obtain ⟨y2,y3⟩:=hy
      go_wp2
      go_roundw
      case rel=>exact ⟨k + 1,by omega,by go_num,hide (by rw [← hx.out,HM.out]),trivial⟩
      case measure=>simp [intOf]; omega
     ·have hm2:entryFrom l k=entryFrom l (k + 1):=by rw [hm,entryChar,decide_eq_true (by omega),Bool.true_and]
      have HM:=hide hm2
      clear hm hm2
      subst hy
      go_wp2
      go_roundw
      case rel=>exact ⟨k + 1,by omega,by go_num,hide (by rw [← hx.out,HM.out]),trivial⟩
      case measure=>simp [intOf]; omega
     ·have hm2:entryFrom l k=entryFrom l (k + 1):=by rw [hm,entryChar,decide_eq_true (by omega),Bool.true_and]
      have HM:=hide hm2
      clear hm hm2
      subst hy
      go_wp2
      go_roundw
      case rel=>exact ⟨k + 1,by omega,by go_num,hide (by rw [← hx.out,HM.out]),trivial⟩
      case measure=>simp [intOf]; omega
     all_goals
      have hm2:entryFrom l k=false:=by rw [hm,entryChar,decide_eq_false (by omega),Bool.false_and]
      have q1:(y != 46)=true:=by simpa using (by omega:¬ y=46)
      have q2:(y != 45)=true:=by simpa using (by omega:¬ y=45)
      try obtain ⟨y2,y3⟩:=hy
      try have y4:¬ y≤57:=by omega
      try have y5:¬ y≤122:=by omega
      have HM:=hide hm2
      clear hm hm2
      go_wp2
      go_ret
      exact ⟨ret_bool (by rw [← hx.out,HM.out]),rfl⟩
    ·have hfin:true=R:=by rw [← hx.out,entryFrom_end (by omega)]
     have HF:=hide hfin
     clear hfin
     go_wp2
     go_ret
     exact ⟨ret_bool (by rw [← HF.out]),rfl⟩
set_option maxRecDepth 20000 in
set_option maxHeartbeats 1600000 in
theorem implEntryQ (l:List Int) (hB:Byt l) (v:Value) (w:World) (hv:Rd w v (bs l)) :
  Calls Tryz.prog 218 #[v] w fun e w'=>e=.returned (.bool (entryOk l))∧w=w':=by
 obtain ⟨A,c,rfl,hc1,hc2,hrd⟩:=hv
 rw [bs_length] at *
 unfold maxLen at hc2
 obtain ⟨R,hR⟩:∃ R,entryOk l=R:=⟨_,rfl⟩
 rw [hR]
 rcases (by omega:l.length=0∨8 < l.length∨(1≤l.length∧l.length≤8)) with h0 | h9 | ⟨h1,h8⟩
 ·rw [entryOk_out (by omega)] at hR
  subst hR
  clear hrd
  go_enter Tryz.func218,Tryz.ntmps218
  go_wp2
  go_ret
  exact ⟨rfl,rfl⟩
 ·rw [entryOk_out (by omega)] at hR
  subst hR
  clear hrd
  go_enter Tryz.func218,Tryz.ntmps218
  go_wp2
  go_ret
  exact ⟨rfl,rfl⟩
 ·obtain ⟨b,off,rfl,hblt,hcell⟩:=hrd (by omega)
  have hfst:w.cell? ⟨b,off,none⟩=some (.int .u8 (l.getD 0 0)):=by
   have:=hcell 0 _ (bs_get (by omega))
   simpa using this
  by_cases h46:l.getD 0 0=46
  ·rw [entryOk_out (by omega)] at hR
   rw [h46] at hfst
   subst hR
   clear hrd hcell h46
   go_enter Tryz.func218,Tryz.ntmps218
   go_wp2
   go_ret
   exact ⟨rfl,rfl⟩
  ·rw [entryOk_in ⟨h1,h8,h46⟩] at hR
   obtain ⟨z0,hz0⟩:∃ z0,l.getD 0 0=z0:=⟨_,rfl⟩
   rw [hz0] at hfst h46
   have hne:(z0 == 46)=false:=by simpa using h46
   have HR:=hide hR
   have HC:=hide hcell
   clear hR hrd hcell hz0 h46
   go_enter Tryz.func218,Tryz.ntmps218
   go_wp2
   go_loopw [21] (fun i wr=>∃ k:Nat,k≤l.length∧i=.int .i64 k∧Hid (entryFrom l k=R)∧w=wr) (fun i _=>l.length - (intOf i).toNat)
   case atStart=>exact ⟨0,by omega,rfl,HR,rfl⟩
   case round =>
    obtain ⟨k,hk,rfl,hx,hww⟩:=hrel
    subst hww
    by_cases hlt:k < l.length
    ·have hin:w.cell? ⟨b,off + k,none⟩=some (.int .u8 (l.getD k 0)):=HC.out k _ (bs_get hlt)
     have hm:=entryFrom_more hlt
     obtain ⟨y0,y1⟩:=hB.at_ k
     generalize l.getD k 0=y at *
     clear hfst hne
     have hidx:=entS_idx y0 y1
     have hcall:=indexByteAny entS y w
     generalize firstIdx entS y.toNat.toUInt8=z at *
     by_cases hy:entryChar y=true
     ·rw [hy] at hm hidx
      rw [Bool.true_and] at hm
      have hz:¬ z < 0:=by simpa using hidx
      have HM:=hide hm
      clear hm hidx hy
      go_wp2_with (go_at_call 248; refine hcall.mono ?_; rintro e w' ⟨rfl,rfl⟩)
      go_roundw
      case rel=>exact ⟨k + 1,by omega,by go_num,hide (by rw [← hx.out,HM.out]),trivial⟩
      case measure=>simp [intOf]; omega
     ·have hy2:entryChar y=false:=by simpa using hy
      rw [hy2] at hm hidx
      rw [Bool.false_and] at hm
      have hz:z < 0:=by simpa using hidx
      have HM:=hide hm
      clear hm hidx hy hy2
      go_wp2_with (go_at_call 248; refine hcall.mono ?_; rintro e w' ⟨rfl,rfl⟩)
      go_ret
      exact ⟨ret_bool (by rw [← hx.out,HM.out]),rfl⟩
    ·have hfin:true=R:=by rw [← hx.out,entryFrom_end (by omega)]
     have HF:=hide hfin
     clear hfin
     go_wp2
     go_ret
     exact ⟨ret_bool (by rw [← HF.out]),rfl⟩
end Go.Proofs.YtgaadpkefncnmaaGreatDoor
/-
  NameOk: the model and the program agree on what a name is.
-/
namespace Go.Proofs.YtgaadpkefncnmaaGreatDoor
open Go.RowKit
set_option maxHeartbeats 400000 in
theorem containsLow (r:Int) (h0:0≤r) (h1:r < 128) (w:World) :
  Calls Tryz.prog 200 #[.string abcS,.int .i32 r] w fun e w'=>e=.returned (.bool (decide (0≤lidx r)))∧Below w.heap.size w w':=by
 obtain ⟨R,hR⟩:∃ R,lidx r=R:=⟨_,rfl⟩
 rw [hR]
 have HR:=hide hR
 clear hR
 go_enter Tryz.func200,Tryz.ntmps200
 go_wp2_with fail
 refine (indexRuneLow r h0 h1 w).mono ?_
 rintro e w1 ⟨rfl,b1⟩
 rw [HR.out]
 go_wp2_with fail
 go_ret
 exact ⟨rfl,b1⟩
set_option maxHeartbeats 400000 in
theorem containsHigh (r:Int) (h0:128≤r) (h1:r≤2147483647) (w:World) :
  Calls Tryz.prog 200 #[.string abcS,.int .i32 r] w fun e w'=>e=.returned (.bool false)∧Below w.heap.size w w':=by
 have hc:=indexRune r (by omega) h1 w
 rw [if_neg (by omega)] at hc
 have HC:=hide hc
 clear hc
 go_enter Tryz.func200,Tryz.ntmps200
 go_wp2_with fail
 refine Calls.mono HC.out ?_
 rintro e w1 ⟨rfl,b1⟩
 go_wp2_with fail
 go_ret
 exact ⟨rfl,b1⟩
/-- All from the k-th on are characters. -/
def okFrom (l:List Int) (k:Nat):Bool:=(l.drop k).all fun x=>decide (0≤lidx x)
def nameOk (l:List Int):Bool:=decide (l.length=16) && okFrom l 0
theorem okFrom_more {l:List Int} {k:Nat} (h:k < l.length):okFrom l k=(decide (0≤lidx (l.getD k 0)) && okFrom l (k + 1)):=by
 unfold okFrom
 rw [List.drop_eq_getElem_cons h,List.all_cons]
 simp [List.getD,List.getElem?_eq_getElem h]
theorem okFrom_end {l:List Int} {k:Nat} (h:l.length≤k):okFrom l k=true:=by
 unfold okFrom
 rw [List.drop_eq_nil_of_le h]
 rfl
end Go.Proofs.YtgaadpkefncnmaaGreatDoor
/-
  A hash in plain numbers: the schedule, the rounds, a block.
-/
namespace Go.Proofs.YtgaadpkefncnmaaGreatDoor
open Go.RowKit
def U32 (l:List Int):Prop:=∀ x∈l,0≤x∧x≤4294967295
theorem U32.at_ {l:List Int} (h:U32 l) (i:Nat):0≤l.getD i 0∧l.getD i 0≤4294967295:=by
 rw [List.getD]
 rcases Nat.lt_or_ge i l.length with hi | hi
 ·rw [List.getElem?_eq_getElem hi]
  exact h _ (List.getElem_mem hi)
 ·rw [List.getElem?_eq_none hi]
  simp
theorem U32.app {a b:List Int} (ha:U32 a) (hb:U32 b):U32 (a++b):=fun x hx=>(List.mem_append.1 hx).elim (ha x) (hb x)
theorem U32.take {l:List Int} (h:U32 l) (n:Nat):U32 (l.take n):=fun x hx=>h x (List.mem_of_mem_take hx)
theorem U32.one {x:Int} (h0:0≤x) (h1:x≤4294967295):U32 [x]:=fun y hy=>by
 obtain rfl:=List.mem_singleton.1 hy
 exact ⟨h0,h1⟩
theorem U32.zeros (n:Nat):U32 (List.replicate n 0):=fun x hx=>by
 have:=(List.mem_replicate.1 hx).2
 omega
def sg0 (x:Int):Int:=bits .xor .u32 (bits .xor .u32 (rot 7 x) (rot 18 x)) (x / 8)
def sg1 (x:Int):Int:=bits .xor .u32 (bits .xor .u32 (rot 17 x) (rot 19 x)) (x / 1024)
theorem sg0_32 (x:Int):0≤sg0 x∧sg0 x≤4294967295:=bits32 _ _ _
theorem sg1_32 (x:Int):0≤sg1 x∧sg1 x≤4294967295:=bits32 _ _ _
/-- The j-th word of a block. -/
def word (b:List Int) (j:Nat):Int:=b.getD (4 * j) 0 * 16777216 + b.getD (4 * j + 1) 0 * 65536 + b.getD (4 * j + 2) 0 * 256 + b.getD (4 * j + 3) 0
theorem word_32 {b:List Int} (hB:Byt b) (j:Nat):0≤word b j∧word b j≤4294967295:=by
 have h0:=hB.at_ (4 * j)
 have h1:=hB.at_ (4 * j + 1)
 have h2:=hB.at_ (4 * j + 2)
 have h3:=hB.at_ (4 * j + 3)
 unfold word
 omega
def first16 (b:List Int):List Int:=(List.range 16).map (word b)
/-- The word that is put behind ws. -/
def nextw (ws:List Int):Int :=
 (ws.getD (ws.length - 16) 0 + sg0 (ws.getD (ws.length - 15) 0) + ws.getD (ws.length - 7) 0 + sg1 (ws.getD (ws.length - 2) 0)) % 4294967296
def wseq (b:List Int):Nat→List Int
 | 0=>first16 b
 | n + 1=>wseq b n++[nextw (wseq b n)]
theorem wseq_len (b:List Int) (n:Nat):(wseq b n).length=16 + n:=by
 induction n with
 | zero=>simp [wseq,first16]
 | succ n ih=>rw [wseq,List.length_append,ih]; rfl
theorem nextw_32 (ws:List Int):0≤nextw ws∧nextw ws≤4294967295:=by unfold nextw; omega
theorem wseq_32 {b:List Int} (hB:Byt b) (n:Nat):U32 (wseq b n):=by
 induction n with
 | zero =>
   intro x hx
   obtain ⟨j,_,rfl⟩:=List.mem_map.1 hx
   exact word_32 hB j
 | succ n ih=>exact ih.app (U32.one (nextw_32 _).1 (nextw_32 _).2)
/-- An array of 64 words, the first of which are ws. -/
def pad64 (ws:List Int):List Int:=ws++List.replicate (64 - ws.length) 0
theorem pad64_len {ws:List Int} (h:ws.length≤64):(pad64 ws).length=64:=by simp [pad64]; omega
theorem pad64_get {ws:List Int} {i:Nat} (h:i < ws.length):(pad64 ws).getD i 0=ws.getD i 0:=by
 simp [pad64,List.getD,List.getElem?_append_left h]
theorem pad64_set {ws:List Int} (h:ws.length < 64) (x:Int):(pad64 ws).set ws.length x=pad64 (ws++[x]):=by
 have e:64 - ws.length=(64 - (ws++[x]).length) + 1:=by simp; omega
 rw [pad64,e,List.replicate_succ,List.set_append,if_neg (by omega),Nat.sub_self,List.set_cons_zero,pad64]
 simp
theorem pad64_full {ws:List Int} (h:ws.length=64):pad64 ws=ws:=by simp [pad64,h]
/-- The words on which the rounds work. -/
structure S8 where
 a:Int
 b:Int
 c:Int
 d:Int
 e:Int
 f:Int
 g:Int
 h:Int
def S8.Ok (s:S8):Prop:=(0≤s.a∧s.a≤4294967295)∧(0≤s.b∧s.b≤4294967295)∧(0≤s.c∧s.c≤4294967295)∧(0≤s.d∧s.d≤4294967295)∧(0≤s.e∧s.e≤4294967295)∧(0≤s.f∧s.f≤4294967295)∧(0≤s.g∧s.g≤4294967295)∧(0≤s.h∧s.h≤4294967295)
def S8.list (s:S8):List Int:=[s.a,s.b,s.c,s.d,s.e,s.f,s.g,s.h]
/-- Bits that lie above all of x are added. -/
theorem ofInt32 {a:Nat} (ha:a < 4294967296):(BitVec.ofInt 32 (a:Int)).toNat=a:=by
 rw [BitVec.ofInt_natCast,BitVec.toNat_ofNat]
 exact Nat.mod_eq_of_lt (by omega)
theorem or32 {a b:Nat} (ha:a < 4294967296) (hb:b < 4294967296):bits .or .u32 (a:Int) (b:Int)=((a ||| b:Nat):Int):=by
 have hx:a ||| b < 2 ^ 32:=Nat.or_lt_two_pow (by omega) (by omega)
 show IntKind.u32.wrap ((BitVec.ofInt 32 (a:Int) ||| BitVec.ofInt 32 (b:Int)).toNat:Int)=_
 rw [BitVec.toNat_or,ofInt32 ha,ofInt32 hb,IntKind.wrap_u32]
 omega
theorem or32_below {x c:Int} (j:Nat) (hx0:0≤x) (hx1:x < 2 ^ j) (hc0:0≤c) (hs:x + c * 2 ^ j < 4294967296):bits .or .u32 (c * 2 ^ j) x=c * 2 ^ j + x:=by
 obtain ⟨a,rfl⟩:=Int.eq_ofNat_of_zero_le hx0
 obtain ⟨b,rfl⟩:=Int.eq_ofNat_of_zero_le hc0
 have e:((b:Int) * 2 ^ j)=((b * 2 ^ j:Nat):Int):=by simp
 rw [e] at hs ⊢
 have ha:a < 2 ^ j:=by
  have e2:((2:Int) ^ j)=((2 ^ j:Nat):Int):=by simp
  rw [e2] at hx1
  omega
 rw [or32 (by omega) (by omega),Nat.mul_comm,← Nat.two_pow_add_eq_or_of_lt ha]
 omega
theorem first16_len (b:List Int):(first16 b).length=16:=by simp [first16]
theorem first16_next {b:List Int} {k:Nat} (h:k < 16):pad64 ((first16 b).take (k + 1))=(pad64 ((first16 b).take k)).set k (word b k):=by
 have hl:((first16 b).take k).length=k:=by rw [List.length_take,first16_len]; omega
 have h2:=pad64_set (ws:=(first16 b).take k) (by omega) (word b k)
 rw [hl] at h2
 rw [h2,List.take_succ_eq_append_getElem (by rw [first16_len]; exact h)]
 have e:(first16 b)[k]'(by rw [first16_len]; exact h)=word b k:=by simp [first16]
 rw [e]
def bs1 (e:Int):Int:=bits .xor .u32 (bits .xor .u32 (rot 6 e) (rot 11 e)) (rot 25 e)
def bs0 (a:Int):Int:=bits .xor .u32 (bits .xor .u32 (rot 2 a) (rot 13 a)) (rot 22 a)
def chw (e f g:Int):Int:=bits .xor .u32 (bits .and .u32 e f) (bits .and .u32 (bits .xor .u32 4294967295 e) g)
def majw (a b c:Int):Int:=bits .xor .u32 (bits .xor .u32 (bits .and .u32 a b) (bits .and .u32 a c)) (bits .and .u32 b c)
/-- One round. -/
def stepS (s:S8) (k w:Int):S8 :=
 ⟨(s.h + bs1 s.e + chw s.e s.f s.g + k + w + bs0 s.a + majw s.a s.b s.c) % 4294967296,s.a,s.b,s.c,(s.d + (s.h + bs1 s.e + chw s.e s.f s.g + k + w)) % 4294967296,s.e,s.f,s.g⟩
def rnds (ws:List Int):Nat→S8→S8
 | 0,s=>s
 | n + 1,s=>stepS (rnds ws n s) (KL.getD n 0) (ws.getD n 0)
theorem rnds_ok (ws:List Int) {s:S8} (hs:s.Ok) (n:Nat):(rnds ws n s).Ok:=by
 induction n with
 | zero=>exact hs
 | succ n ih =>
   obtain ⟨ha,hb,hc,hd,he,hf,hg,hh⟩:=ih
   refine ⟨?_,ha,hb,hc,?_,he,hf,hg⟩ <;> simp only [rnds,stepS] <;> omega
theorem wrap4 (a b c d e:Int):IntKind.u32.wrap (IntKind.u32.wrap (IntKind.u32.wrap (IntKind.u32.wrap (a + b) + c) + d) + e)=(a + b + c + d + e) % 4294967296:=by
 simp only [IntKind.wrap_u32]
 omega
/-- Word by word. -/
def add8 (xs ys:List Int):List Int:=List.zipWith (fun x y=>(x + y) % 4294967296) xs ys
def mixed (xs ys:List Int) (k:Nat):List Int:=(add8 xs ys).take k++xs.drop k
theorem mixed_len {xs ys:List Int} (h:xs.length=ys.length) (k:Nat):(mixed xs ys k).length=xs.length:=by
 simp [mixed,add8,h]
 omega
theorem mixed_get {xs ys:List Int} (h:xs.length=ys.length) {k:Nat} (hk:k < xs.length):(mixed xs ys k).getD k 0=xs.getD k 0:=by
 have e:((add8 xs ys).take k).length=k:=by simp [add8,h]; omega
 rw [mixed,List.getD_eq_getElem?_getD,List.getElem?_append_right (by omega),e,Nat.sub_self,List.getElem?_drop,Nat.add_zero,List.getD_eq_getElem?_getD]
theorem mixed_set {xs ys:List Int} (h:xs.length=ys.length) {k:Nat} (hk:k < xs.length):(mixed xs ys k).set k ((xs.getD k 0 + ys.getD k 0) % 4294967296)=mixed xs ys (k + 1):=by
 have e:((add8 xs ys).take k).length=k:=by simp [add8,h]; omega
 have hk2:k < (add8 xs ys).length:=by simp [add8,h]; omega
 rw [mixed,List.set_append,if_neg (by omega),e,Nat.sub_self,List.drop_eq_getElem_cons hk,List.set_cons_zero,mixed,List.take_succ_eq_append_getElem hk2,List.append_assoc]
 congr 1
 have hk3:k < ys.length:=by omega
 simp [add8,List.getD,hk,hk3]
theorem mixed_end {xs ys:List Int} (h:xs.length=ys.length):mixed xs ys xs.length=add8 xs ys:=by
 rw [mixed,List.drop_length,List.append_nil,List.take_of_length_le (by simp [add8,h])]
theorem S8.list_32 {s:S8} (h:s.Ok):U32 s.list:=by
 obtain ⟨ha,hb,hc,hd,he,hf,hg,hh⟩:=h
 intro x hx
 simp only [S8.list,List.mem_cons,List.not_mem_nil,or_false] at hx
 rcases hx with rfl | rfl | rfl | rfl | rfl | rfl | rfl | rfl <;> assumption
end Go.Proofs.YtgaadpkefncnmaaGreatDoor
/-
  The model's place of a character.
-/
namespace Go.Proofs.YtgaadpkefncnmaaGreatDoor
open Go.RowKit
set_option maxRecDepth 20000 in
set_option maxHeartbeats 800000 in
theorem letterIdx (x:Int) (h0:0≤x) (h1:x≤255) (w:World) :
  Calls Tryz.prog 145 #[.int .u8 x] w fun e w'=>e=.returned (.int .i64 (lidx x))∧w=w':=by
 obtain ⟨R,hR⟩:∃ R,lidx x=R:=⟨_,rfl⟩
 rw [hR]
 have HR:=hide hR
 clear hR
 go_enter Tryz.func145,Tryz.ntmps145
 go_wp2
 go_loop [3] (fun i=>∃ k:Nat,k≤32∧i=.int .i64 k∧Hid (lfrom x (32 - k) k=R)) (fun i=>32 - (intOf i).toNat)
 case atStart=>exact ⟨0,by omega,rfl,HR⟩
 case round =>
  obtain ⟨k,hk,rfl,hx⟩:=hrel
  by_cases hlt:k < 32
  ·have hl:=ltr_at k hlt
   have hstep:lfrom x (32 - k) k=if ltr k=x then (k:Int) else lfrom x (32 - (k + 1)) (k + 1):=by
    have e:32 - k=(32 - (k + 1)) + 1:=by omega
    rw [e]
    rfl
   have HS:=hide hstep
   clear hstep
   obtain ⟨z,hz⟩:∃ z,ltr k=z:=⟨_,rfl⟩
   rw [hz] at hl
   have HZ:=hide hz
   clear hz
   by_cases he:z=x
   ·subst he
    go_wp2
    go_ret
    refine ⟨ret_int ?_,rfl⟩
    rw [← hx.out,HS.out,if_pos HZ.out]
   ·have hne:(z == x)=false:=by simpa using he
    have HE:=hide he
    clear he
    go_wp2
    go_round
    case rel=>exact ⟨k + 1,by omega,by go_num,hide (by rw [← hx.out,HS.out,HZ.out,if_neg HE.out])⟩
    case measure=>simp [intOf]; omega
  ·obtain rfl:k=32:=by omega
   go_wp2
   go_ret
   exact ⟨ret_int hx.out,rfl⟩
end Go.Proofs.YtgaadpkefncnmaaGreatDoor
/-
  Does a text stand in another one? In plain numbers, and in the library's words.
-/
namespace Go.Proofs.YtgaadpkefncnmaaGreatDoor
open Go.RowKit
set_option linter.unusedVariables false
/-- The text n stands in b at the place i. -/
def atL (b n:List Int) (i:Nat):Bool:=decide (i + n.length≤b.length∧(b.drop i).take n.length=n)
def contF (b n:List Int):Nat→Nat→Bool
 | 0,_=>false
 | f + 1,i=>atL b n i || contF b n f (i + 1)
def contL (b n:List Int):Bool:=contF b n (b.length + 1) 0
theorem contF_more {b n:List Int} {k:Nat} (h:k≤b.length):contF b n (b.length + 1 - k) k=(atL b n k || contF b n (b.length + 1 - (k + 1)) (k + 1)):=by
 have e:b.length + 1 - k=(b.length + 1 - (k + 1)) + 1:=by omega
 rw [e,contF]
theorem contF_end {b n:List Int} : ∀ {f k:Nat},b.length < k + n.length→contF b n f k=false
 | 0,_,_=>rfl
 | f + 1,k,h=>by
   rw [contF,contF_end (f:=f) (k:=k + 1) (by omega),atL,decide_eq_false (fun h2=>by omega)]
   rfl
theorem contF_iff {b n:List Int} : ∀ {f k:Nat},contF b n f k=true↔∃ i,k≤i∧i < k + f∧atL b n i=true
 | 0,k=>⟨fun h=>(by cases h),fun ⟨i,h1,h2,_⟩=>(by omega)⟩
 | f + 1,k=>by
   rw [contF,Bool.or_eq_true,contF_iff (f:=f) (k:=k + 1)]
   constructor
   ·rintro (h | ⟨i,h1,h2,h3⟩)
    ·exact ⟨k,Nat.le_refl _,by omega,h⟩
    ·exact ⟨i,by omega,by omega,h3⟩
   ·rintro ⟨i,h1,h2,h3⟩
    by_cases h:i=k
    ·subst h; exact .inl h3
    ·exact .inr ⟨i,by omega,by omega,h3⟩
theorem contL_iff {b n:List Int} : contL b n=true↔∃ i,atL b n i=true:=by
 rw [contL,contF_iff]
 constructor
 ·rintro ⟨i,_,_,h⟩; exact ⟨i,h⟩
 ·rintro ⟨i,h⟩
  have h2:=of_decide_eq_true h
  exact ⟨i,Nat.zero_le _,by omega,h⟩
end Go.Proofs.YtgaadpkefncnmaaGreatDoor
/-
  NameOk: the program's walk.
-/
namespace Go.Proofs.YtgaadpkefncnmaaGreatDoor
open Go.RowKit
set_option maxRecDepth 20000 in
set_option maxHeartbeats 1600000 in
theorem implNameOk (l:List Int) (hB:Byt l) (v:Value) (w:World) (hv:Rd w v (bs l)) (hl:l.length≤1099511627776) :
  Calls Tryz.prog 166 #[v] w fun e w'=>e=.returned (.bool (nameOk l))∧Below w.heap.size w w':=by
 have hcv:=conv_rd (P:=Tryz.prog) Tryz.underlying39 Tryz.underlying5 Tryz.underlying9 hv
 obtain ⟨A,c,rfl,hc1,hc2,hrd⟩:=hv
 rw [bs_length] at *
 unfold maxLen at hc2
 obtain ⟨R,hR⟩:∃ R,nameOk l=R:=⟨_,rfl⟩
 rw [hR]
 clear hrd
 by_cases h16:l.length=16
 ·have HR:Hid (okFrom l 0=R):=by
   rw [← hR,nameOk,h16]
   exact hide rfl
  have hne:((l.length:Int) != 16)=false:=by rw [h16]; rfl
  have hsz:=strOfNums_size l
  rw [h16] at hsz
  have hget:∀ k (h:k < (strOfNums l).size),(((strOfNums l)[k]'h).toNat:Int)=l.getD k 0:=fun k h=>str_get hB h
  have hhi:l.length≤16∧16≤l.length:=by omega
  obtain ⟨hlo,hhi⟩:=hhi
  clear hR h16
  generalize strOfNums l=s at *
  have HSZ:=hide hsz
  have HG:=hide hget
  clear hsz hget
  go_enter Tryz.func166,Tryz.ntmps166
  go_wp2
  clear hcv
  go_loopw [] (fun wr=>∃ k:Nat,k≤16∧wr.heap[w.heap.size]? = some (.stringIter s k)∧Hid (okFrom l k=R)∧Below w.heap.size w wr) (fun wr=>16 - wr.iterPos w.heap.size)
  case atStart=>exact ⟨0,by omega,by simpa using World.iter_heap w s 0,HR,(Below.refl _ w).alloc (Nat.le_refl _) _⟩
  case round =>
   obtain ⟨k,hk,hit,hx,hbw⟩:=hrel
   have hwz:w.heap.size < wr.heap.size:=(Array.getElem?_eq_some_iff.1 hit).1
   by_cases hp:k < 16
   ·have hps:k < s.size:=by rw [HSZ.out]; exact hp
    have hgk:=HG.out k hps
    have hm:=okFrom_more (l:=l) (k:=k) (by omega)
    obtain ⟨y0,y1⟩:=hB.at_ k
    generalize l.getD k 0=y at *
    by_cases h128:y < 128
    ·have hnx:∀ ty,(Instr.next (.pointer (some ⟨w.heap.size,0,none⟩)) true ty).run Tryz.prog wr=_:=fun ty=>Lib.run_next_ascii_at wr w.heap.size s k ty hit hps (by omega)
     rw [hgk] at hnx
     have hit2:=Lib.iterAt_heap wr w.heap.size s k (k + 1) hit
     have hbw2:=Lib.below_iterAt hbw (k:=w.heap.size) (by omega) s (k + 1)
     have hwz2:(wr.iterAt w.heap.size s (k + 1)).heap.size=wr.heap.size:=Lib.iterAt_size _ _ _ _
     have hm0:wr.iterPos w.heap.size=k:=iterPos_of hit
     generalize wr.iterAt w.heap.size s (k + 1)=w2 at *
     have hlt2:w.heap.size < w2.heap.size:=by omega
     have HM0:=hide hm0
     have HI:=hide hit2
     have HB:=hide hbw2
     have HM:=hide hm
     clear hm0 hit hit2 hbw hbw2 hgk hm hwz2
     by_cases hz0:0≤lidx y
     ·have hd:decide (0≤lidx y)=true:=by simpa using hz0
      have HD:=hide hd
      clear hd hz0
      go_wp2_with fail
      refine (containsLow y y0 h128 w2).mono ?_
      rintro e w3 ⟨rfl,b3⟩
      rw [HD.out]
      have hI3:w3.heap[w.heap.size]? = some (.stringIter s (k + 1)):=(b3.block _ hlt2).trans HI.out
      have HI3:=hide hI3
      have hm3:w3.iterPos w.heap.size=k + 1:=iterPos_of hI3
      have HM3:=hide hm3
      clear hI3 hm3
      go_wp2_with fail
      go_roundw
      case rel=>exact ⟨k + 1,by omega,HI3.out,hide (by rw [← hx.out,HM.out,HD.out,Bool.true_and]),HB.out.trans (b3.mono (by omega))⟩
      case measure=>rw [HM3.out,HM0.out]; omega
     ·have hd:decide (0≤lidx y)=false:=by simpa using hz0
      have HD:=hide hd
      clear hd hz0
      go_wp2_with fail
      refine (containsLow y y0 h128 w2).mono ?_
      rintro e w3 ⟨rfl,b3⟩
      rw [HD.out]
      go_wp2_with fail
      go_ret
      exact ⟨ret_bool (by rw [← hx.out,HM.out,HD.out,Bool.false_and]),HB.out.trans (b3.mono (by omega))⟩
    ·have hnx:∀ ty,(Instr.next (.pointer (some ⟨w.heap.size,0,none⟩)) true ty).run Tryz.prog wr=_:=fun ty=>Lib.run_next_any_at wr w.heap.size s k ty hit hps
     have hd1:=decode_high s k hps (by omega)
     have hd2:=decode_le s k
     have hbw2:=Lib.below_iterAt hbw (k:=w.heap.size) (by omega) s (k + (Utf8.decode s k).2)
     have hwz2:(wr.iterAt w.heap.size s (k + (Utf8.decode s k).2)).heap.size=wr.heap.size:=Lib.iterAt_size _ _ _ _
     generalize wr.iterAt w.heap.size s (k + (Utf8.decode s k).2)=w2 at *
     generalize (Utf8.decode s k).1=q at *
     have hlt2:w.heap.size < w2.heap.size:=by omega
     have hd:decide (0≤lidx y)=false:=by
      have:=(lidx_facts y0 y1).2.2.1 (by omega)
      rw [this]
      rfl
     have HD:=hide hd
     have HB:=hide hbw2
     have HM:=hide hm
     obtain ⟨hq1,-⟩:=hd1
     clear hd hit hbw hbw2 hgk hm hwz2
     go_wp2_with fail
     refine (containsHigh q (by omega) (by omega) w2).mono ?_
     rintro e w3 ⟨rfl,b3⟩
     go_wp2_with fail
     go_ret
     exact ⟨ret_bool (by rw [← hx.out,HM.out,HD.out,Bool.false_and]),HB.out.trans (b3.mono (by omega))⟩
   ·obtain rfl:k=16:=by omega
    have hnx:∀ ty,(Instr.next (.pointer (some ⟨w.heap.size,0,none⟩)) true ty).run Tryz.prog wr=_:=fun ty=>Lib.run_next_end_at wr w.heap.size s 16 ty hit (by rw [HSZ.out]; omega)
    have hfin:true=R:=by rw [← hx.out,okFrom_end (by omega)]
    have HF:=hide hfin
    have HB:=hide hbw
    clear hfin hit hbw
    go_wp2
    go_ret
    exact ⟨ret_bool (by rw [← HF.out]),HB.out⟩
 ·have HR:Hid (false=R):=by
   rw [← hR,nameOk]
   exact hide (by simp [h16])
  have hne:((l.length:Int) != 16)=true:=by simpa using (by omega:¬ (l.length:Int)=16)
  clear hR h16 hcv
  go_enter Tryz.func166,Tryz.ntmps166
  go_wp2
  go_ret
  exact ⟨ret_bool (by rw [← HR.out]),Below.refl _ _⟩
end Go.Proofs.YtgaadpkefncnmaaGreatDoor
/-
  Valid trees in plain numbers.
-/
namespace Go.Proofs.YtgaadpkefncnmaaGreatDoor
open Go.RowKit
set_option linter.unusedVariables false
/-- The k-th name is an entry, and comes behind the one before it. -/
def nameAt (ns:List (List Int)) (k:Nat):Bool:=entryOk (ns.getD k []) && (decide (k=0) || lessL (ns.getD (k - 1) []) (ns.getD k []))
def ascFrom (ns:List (List Int)):Nat→Nat→Bool
 | 0,_=>true
 | f + 1,k=>nameAt ns k && ascFrom ns f (k + 1)
def asc (ns:List (List Int)):Bool:=ascFrom ns ns.length 0
def T.nodeOk:T→Bool
 | .node k d ns ks=>if k=2 then decide (d.length=0∧ks.length≤6∧ns.length=ks.length) && asc ns else decide (0≤k∧k≤3∧d.length≤400∧ns.length=0∧ks.length=0)
theorem ascFrom_P (ns:List (List Int)):∀ f k,ascFrom ns f k=ascPF entryOk ns f k
 | 0,_=>rfl
 | f + 1,k=>by rw [ascFrom,ascPF,ascFrom_P ns f]; rfl
theorem asc_P (ns:List (List Int)):ascP entryOk ns=asc ns:=(ascFrom_P ns _ _).symm
end Go.Proofs.YtgaadpkefncnmaaGreatDoor
/-
  A hash in plain numbers: padding, blocks one behind the other, the bytes of the result.
-/
namespace Go.Proofs.YtgaadpkefncnmaaGreatDoor
open Go.RowKit
def zpad (n:Nat):Nat:=(119 - n % 64) % 64
/-- The first j of the eight bytes of the length in bits. -/
def lenB (n:Nat):Nat→List Int
 | 0=>[]
 | j + 1=>lenB n j++[(n:Int) * 8 / 2 ^ (8 * (7 - j)) % 256]
theorem lenB_len (n j:Nat):(lenB n j).length=j:=by
 induction j with
 | zero=>rfl
 | succ j ih=>rw [lenB,List.length_append,ih]; rfl
theorem lenB_byt (n j:Nat):Byt (lenB n j):=by
 induction j with
 | zero=>exact Byt.nil
 | succ j ih=>exact ih.app (Byt.one (by omega) (by omega))
def zeros (n:Nat):List Int:=List.replicate n 0
theorem zeros_len (n:Nat):(zeros n).length=n:=List.length_replicate
theorem zeros_byt (n:Nat):Byt (zeros n):=fun x hx=>by
 obtain rfl:=(List.mem_replicate.1 hx).2
 omega
theorem zeros_next (n:Nat):zeros n++[0]=zeros (n + 1):=(List.replicate_succ' (n:=n) (a:=(0:Int))).symm
/-- What stands behind a message of n bytes. -/
def tailB (n:Nat):List Int:=128 :: zeros (zpad n)++lenB n 8
theorem tailB_len (n:Nat):(tailB n).length=1 + zpad n + 8:=by
 simp [tailB,zeros_len,lenB_len]
 omega
theorem tailB_byt (n:Nat):Byt (tailB n):=by
 have h:Byt ([128]++zeros (zpad n)++lenB n 8):=((Byt.one (by omega) (by omega)).app (zeros_byt _)).app (lenB_byt _ _)
 exact h
def msg (b:List Int):List Int:=b++tailB b.length
theorem msg_byt {b:List Int} (h:Byt b):Byt (msg b):=h.app (tailB_byt _)
theorem pad_mod (n:Nat):(n + (tailB n).length) % 64=0:=by
 rw [tailB_len,zpad]
 omega
theorem pad_le (n:Nat):(tailB n).length≤72:=by
 rw [tailB_len,zpad]
 omega
theorem msg_len (b:List Int):(msg b).length=b.length + (tailB b.length).length:=by rw [msg,List.length_append]
/-- One block. -/
def plus8 (s r:S8):S8:=⟨(s.a + r.a) % 4294967296,(s.b + r.b) % 4294967296,(s.c + r.c) % 4294967296,(s.d + r.d) % 4294967296,(s.e + r.e) % 4294967296,(s.f + r.f) % 4294967296,(s.g + r.g) % 4294967296,(s.h + r.h) % 4294967296⟩
theorem plus8_list (s r:S8):(plus8 s r).list=add8 s.list r.list:=rfl
theorem plus8_ok (s r:S8):(plus8 s r).Ok:=by
 refine ⟨?_,?_,?_,?_,?_,?_,?_,?_⟩ <;> simp only [plus8] <;> omega
def blockS (s:S8) (b:List Int):S8:=plus8 s (rnds (wseq b 48) 64 s)
theorem blockS_list (s:S8) (b:List Int):(blockS s b).list=add8 s.list (rnds (wseq b 48) 64 s).list:=by
 rw [blockS]
 exact plus8_list _ _
theorem blockS_ok (s:S8) (b:List Int):(blockS s b).Ok:=by
 rw [blockS]
 exact plus8_ok _ _
def blk64 (l:List Int) (i:Nat):List Int:=(l.drop (64 * i)).take 64
theorem blk_len {l:List Int} {i:Nat} (h:64 * (i + 1)≤l.length):(blk64 l i).length=64:=by
 rw [blk64,List.length_take,List.length_drop]
 omega
theorem blk_byt {l:List Int} (h:Byt l) (i:Nat):Byt (blk64 l i):=(h.drop _).take _
/-- All blocks. -/
def hashN (s:S8) (l:List Int):Nat→S8
 | 0=>s
 | n + 1=>blockS (hashN s l n) (blk64 l n)
theorem hashN_ok {s:S8} (hs:s.Ok) (l:List Int) (n:Nat):(hashN s l n).Ok:=by
 cases n with
 | zero=>exact hs
 | succ n=>exact blockS_ok _ _
theorem blk_left {a b:List Int} {i:Nat} (h:64 * (i + 1)≤a.length):blk64 (a++b) i=blk64 a i:=by
 rw [blk64,blk64,List.drop_append_of_le_length (by omega),List.take_append_of_le_length (by rw [List.length_drop]; omega)]
theorem blk_right {a b:List Int} {n i:Nat} (h:a.length=64 * n):blk64 (a++b) (n + i)=blk64 b i:=by
 rw [blk64,blk64,List.drop_append,List.drop_eq_nil_of_le (by omega),List.nil_append,h]
 congr 2
 omega
theorem hashN_left {s:S8} {a b:List Int} {n:Nat} (h:64 * n≤a.length):hashN s (a++b) n=hashN s a n:=by
 induction n with
 | zero=>rfl
 | succ n ih=>rw [hashN,hashN,ih (by omega),blk_left h]
theorem hashN_both {s:S8} {a b:List Int} {n:Nat} (h:a.length=64 * n) (m:Nat):hashN s (a++b) (n + m)=hashN (hashN s a n) b m:=by
 induction m with
 | zero=>exact hashN_left (by omega)
 | succ m ih=>rw [← Nat.add_assoc,hashN,hashN,ih,blk_right h]
def S0:S8:=⟨0x6a09e667,0xbb67ae85,0x3c6ef372,0xa54ff53a,0x510e527f,0x9b05688c,0x1f83d9ab,0x5be0cd19⟩
theorem S0_ok:S0.Ok:=by
 refine ⟨?_,?_,?_,?_,?_,?_,?_,?_⟩ <;> simp only [S0] <;> omega
/-- The bytes of words. -/
def outB:List Int→List Int
 | []=>[]
 | x :: r=>[x / 16777216 % 256,x / 65536 % 256,x / 256 % 256,x % 256]++outB r
theorem outB_len (l:List Int):(outB l).length=4 * l.length:=by
 induction l with
 | nil=>rfl
 | cons x r ih =>
   rw [outB,List.length_append,ih]
   simp
   omega
theorem outB_byt (l:List Int):Byt (outB l):=by
 induction l with
 | nil=>exact Byt.nil
 | cons x r ih =>
   rw [outB]
   refine Byt.app ?_ ih
   intro y hy
   simp only [List.mem_cons,List.not_mem_nil,or_false] at hy
   omega
theorem outB_app (a b:List Int):outB (a++b)=outB a++outB b:=by
 induction a with
 | nil=>rfl
 | cons x r ih=>rw [List.cons_append,outB,ih,outB,List.append_assoc]
theorem outB_next {l:List Int} {k:Nat} (h:k < l.length) :
  outB (l.take (k + 1))=outB (l.take k)++[l.getD k 0 / 16777216 % 256,l.getD k 0 / 65536 % 256,l.getD k 0 / 256 % 256,l.getD k 0 % 256]:=by
 rw [List.take_succ_eq_append_getElem h,outB_app]
 simp [outB,List.getD,h]
/-- What the hash of b is. -/
def shaL (b:List Int):List Int:=outB (hashN S0 (msg b) ((msg b).length / 64)).list
theorem shaL_byt (b:List Int):Byt (shaL b):=outB_byt _
theorem shaL_len (b:List Int):(shaL b).length=32:=by
 rw [shaL,outB_len]
 rfl
/-- In two parts: whole blocks, and the rest with what stands behind it. -/
theorem shaL_parts (b:List Int):shaL b=outB (hashN (hashN S0 (b.take (64 * (b.length / 64))) (b.length / 64)) (b.drop (64 * (b.length / 64))++tailB b.length) ((b.drop (64 * (b.length / 64))++tailB b.length).length / 64)).list:=by
 have e:msg b=b.take (64 * (b.length / 64))++(b.drop (64 * (b.length / 64))++tailB b.length):=by
  rw [msg,← List.append_assoc,List.take_append_drop]
 have h1:(b.take (64 * (b.length / 64))).length=64 * (b.length / 64):=by rw [List.length_take]; omega
 have h2:(msg b).length / 64=b.length / 64 + (b.drop (64 * (b.length / 64))++tailB b.length).length / 64:=by
  have:=pad_mod b.length
  rw [msg_len,List.length_append,List.length_drop]
  omega
 rw [shaL,h2,e,hashN_both h1]
theorem zpad_rest (b:List Int):zpad (b.drop (64 * (b.length / 64))).length=zpad b.length:=by
 rw [zpad,zpad,List.length_drop]
 congr 2
 omega
end Go.Proofs.YtgaadpkefncnmaaGreatDoor
/-
  NameOk: the model's walk.
-/
namespace Go.Proofs.YtgaadpkefncnmaaGreatDoor
open Go.RowKit
end Go.Proofs.YtgaadpkefncnmaaGreatDoor
/-
  NameOk leaves the model's world as it is.
-/
namespace Go.Proofs.YtgaadpkefncnmaaGreatDoor
open Go.RowKit
set_option maxRecDepth 20000 in
set_option maxHeartbeats 800000 in
theorem specNameQ (l:List Int) (hB:Byt l) (v:Value) (w:World) (hv:Rd w v (bs l)) (hl:l.length≤1099511627776) :
  Calls Tryz.prog 95 #[v] w fun e w'=>e=.returned (.bool (nameOk l))∧w=w':=by
 obtain ⟨A,c,rfl,hc1,hc2,hrd⟩:=hv
 rw [bs_length] at *
 unfold maxLen at hc2
 obtain ⟨R,hR⟩:∃ R,nameOk l=R:=⟨_,rfl⟩
 rw [hR]
 by_cases h16:l.length=16
 ·have HR:Hid (okFrom l 0=R):=by
   rw [← hR,nameOk,h16]
   exact hide rfl
  have H16:=hide h16
  have hlo:l.length≤16:=by omega
  have hhi:16≤l.length:=by omega
  have hne:((l.length:Int) != 16)=false:=by rw [h16]; rfl
  clear hR h16
  go_enter Tryz.func95,Tryz.ntmps95
  go_wp2
  go_loopw [3] (fun i wr=>∃ k:Nat,k≤l.length∧i=.int .i64 k∧Hid (okFrom l k=R)∧w=wr) (fun i _=>l.length - (intOf i).toNat)
  case atStart=>exact ⟨0,by omega,rfl,HR,rfl⟩
  case round =>
   obtain ⟨k,hk,rfl,hx,hww⟩:=hrel
   subst hww
   by_cases hlt:k < l.length
   ·obtain ⟨b,off,rfl,hblt,hcell⟩:=hrd (by omega)
    have hin:w.cell? ⟨b,off + k,none⟩=some (.int .u8 (l.getD k 0)):=hcell k _ (bs_get hlt)
    have hm:=okFrom_more hlt
    obtain ⟨y0,y1⟩:=hB.at_ k
    generalize l.getD k 0=y at *
    obtain ⟨z,hz⟩:∃ z,lidx y=z:=⟨_,rfl⟩
    rw [hz] at hm
    have HZ:=hide hz
    have HM:=hide hm
    clear hz hm hcell hrd
    by_cases hz0:0≤z
    ·have HD:=hide (decide_eq_true hz0)
     go_wp2_with (go_at_call 145; refine (letterIdx _ (by omega) (by omega) _).mono ?_; rintro e w' ⟨rfl,rfl⟩; rw [HZ.out])
     go_roundw
     case rel=>exact ⟨k + 1,by omega,by go_num,hide (by rw [← hx.out,HM.out,HD.out,Bool.true_and]),trivial⟩
     case measure=>simp [intOf]; omega
    ·have HD:=hide (decide_eq_false hz0)
     go_wp2_with (go_at_call 145; refine (letterIdx _ (by omega) (by omega) _).mono ?_; rintro e w' ⟨rfl,rfl⟩; rw [HZ.out])
     go_ret
     exact ⟨ret_bool (by rw [← hx.out,HM.out,HD.out,Bool.false_and]),rfl⟩
   ·have hfin:true=R:=by rw [← hx.out,okFrom_end (by omega)]
    have HF:=hide hfin
    clear hfin hrd
    go_wp2
    go_ret
    exact ⟨ret_bool (by rw [← HF.out]),rfl⟩
 ·have HR:Hid (false=R):=by
   rw [← hR,nameOk]
   exact hide (by simp [h16])
  have hne:((l.length:Int) != 16)=true:=by simpa using (by omega:¬ (l.length:Int)=16)
  clear hR hrd h16
  go_enter Tryz.func95,Tryz.ntmps95
  go_wp2
  go_ret
  exact ⟨ret_bool (by rw [← HR.out]),rfl⟩
end Go.Proofs.YtgaadpkefncnmaaGreatDoor
/-
  A tree's value in a block of its own; its rows' lengths.
-/
namespace Go.Proofs.YtgaadpkefncnmaaGreatDoor
open Go.RowKit
set_option linter.unusedVariables false
/-- A tree's value, put into a block of its own. -/
theorem boxed (w:World) (q:Q) (t:TypeId):∃ wa,w.alloc (.cells #[.int .i64 q.k,q.d,q.n,q.c] t)=wa∧C4 wa w.heap.size t (.int .i64 q.k) q.d q.n q.c∧Below w.heap.size w wa∧wa.heap.size=w.heap.size + 1 :=
 ⟨_,rfl,heap_alloc_new w _,(Below.refl _ _).alloc (Nat.le_refl _) _,by simp⟩
theorem TIn.lens {w:World} {k:Int} {d:List Int} {ns:List (List Int)} {ks:List T} {q:Q} (h:TIn w (.node k d ns ks) q) :
  ∃ A c A' c' A'' c'',q.d=.slice A d.length c∧d.length≤c∧c≤maxLen∧q.n=.slice A' ns.length c'∧ns.length≤c'∧c'≤maxLen∧q.c=.slice A'' ks.length c''∧ks.length≤c''∧c''≤maxLen:=by
 rw [TIn] at h
 obtain ⟨_,⟨A,c,e,h1,h2,_⟩,⟨vs,⟨A',c',e',h1',h2',_⟩,hl,_⟩,qs,⟨A'',c'',e'',h1'',h2'',_⟩,hq⟩:=h
 rw [bs_length] at e h1
 rw [hl] at e' h1'
 rw [hq.len] at e'' h1''
 exact ⟨A,c,A',c',A'',c'',e,h1,h2,e',h1',h2',e'',h1'',h2''⟩
end Go.Proofs.YtgaadpkefncnmaaGreatDoor
/-
  The program's hash: what is put behind the message.
-/
namespace Go.Proofs.YtgaadpkefncnmaaGreatDoor
open Go.RowKit
set_option linter.unusedVariables false
set_option maxRecDepth 20000 in
set_option maxHeartbeats 1600000 in
theorem padded (r:List Int) (v:Value) (n:Nat) (w:World) (hv:Rd w v (bs r)) (hn:n≤100000) (hr:r.length≤64) (hm:zpad r.length=zpad n) :
  Calls Tryz.prog 253 #[v,.int .i64 n] w fun e w'=>∃ v',e=.returned v'∧w'.ownsRow w.heap.size 5 1 v' (r++tailB n).length (bs (r++tailB n))∧Below w.heap.size w w':=by
 obtain ⟨i0,hi0,hz0,hz1,hz2⟩:=info_parts u8info
 have HV:=hide hv
 clear hv
 have hz:zpad r.length=(119 - r.length % 64) % 64:=rfl
 rw [hm] at hz
 generalize hzp:zpad n=z at *
 have HZP:=hide hzp
 have HZ:=hide hz
 have hz64:z < 64:=by omega
 clear hzp hm hz
 go_enter Tryz.func253,Tryz.ntmps253
 go_upto_block 0 with (first
  | (go_at_call 129; (with_reducible refine (clone r v w HV.out (by omega)).mono ?_); rintro e w1 ⟨v1,rfl,own1,b1⟩)
  | ((with_reducible refine at_slot 10 ?_); refine wpList_app _ rfl (.tmp 8) (.tmp 9) _ rfl w.heap.size 5 i0 _ 1 Tryz.underlying39 hi0 hz0 hz1 hz2 rfl _ _ _ rfl (own1.alloc _) _ _ rfl (rd_one _ _ _) (bs_one _) (by rw [bs_length]; simp only [maxLen,List.length_singleton]; omega) (by rw [bs_length]; simp only [List.length_singleton]; omega) (by have:=b1.size; simp; omega) ?_; intro v2 w2 own2 gr2))
 have b2:Below w.heap.size w w2:=Below.row (b1.alloc b1.size _) (by have:=b1.size; simp; omega) (own1.alloc _) gr2
 have o2:w2.ownsRow w.heap.size 5 1 v2 (r.length + 1 + 0) (bs (r++[128]++zeros 0)):=own_len (own_cells own2 (by simp [bs,zeros])) (by simp [bs])
 clear own1 b1 own2 gr2
 go_cut [5] (fun v5 wx=>wx.ownsRow w.heap.size 5 1 v5 (r.length + 1 + z) (bs (r++[128]++zeros z))∧Below w.heap.size w wx)
 case first =>
  go_wp2
  go_loopw [5] (fun v5 wr=>∃ k:Nat,k≤z∧wr.ownsRow w.heap.size 5 1 v5 (r.length + 1 + k) (bs (r++[128]++zeros k))∧Below w.heap.size w wr)
   (fun v5 _=>200 - lenV v5)
  case atStart=>exact ⟨0,by omega,o2,b2⟩
  case round =>
   clear o2 b2
   obtain ⟨k,hk,hown,hbel⟩:=hrel
   obtain ⟨A,c,rfl,hc1,hc2⟩:=own_slice hown
   have HO:=hide hown
   have HB:=hide hbel
   clear hown hbel
   have hsz:=HB.out.size
   by_cases hlt:k < z
   ·have h56:((r.length:Int) + 1 + (k:Int)) % 64≠56:=by have hz:=HZ.out; omega
    go_wp2_with ((with_reducible refine at_slot 17 ?_); refine wpList_app _ rfl (.tmp 15) (.tmp 16) _ rfl w.heap.size 5 i0 _ 1 Tryz.underlying39 hi0 hz0 hz1 hz2 rfl _ _ _ rfl (HO.out.alloc _) _ _ rfl (rd_one _ _ _) (bs_one _) (by rw [bs_length]; simp only [maxLen,List.length_singleton]; omega) (by rw [bs_length]; simp only [List.length_singleton]; omega) (by simp; omega) ?_; intro v3 w3 own3 gr3)
    obtain ⟨A3,c3,rfl,_,_⟩:=own_slice own3
    go_roundw
    case rel=>exact ⟨k + 1,by omega,own_len (own_cells own3 (by rw [← zeros_next,← List.append_assoc,bs_append _ [0]])) (by simp [bs]; omega),Below.row (HB.out.alloc hsz _) (by simp; omega) (HO.out.alloc _) gr3⟩
    case measure=>simp [lenV,bs_length]; omega
   ·have hkz:k=z:=by omega
    subst hkz
    have h56:((r.length:Int) + 1 + (k:Int)) % 64=56:=by have hz:=HZ.out; omega
    go_wp2
    go_meet
    exact ⟨HO.out,HB.out⟩
 case rest =>
  clear o2 b2
  obtain ⟨o2,b2⟩:=hcut
  have o3:=own_len (own_cells o2 (ys:=bs (r++[128]++zeros z++lenB n 0)) (by simp [lenB])) (m:=r.length + 1 + z + 0) rfl
  clear o2
  go_wp2
  go_loopw [5,6] (fun v5 q wr=>∃ j:Nat,j≤8∧q=.int .i64 (56 - 8 * j)∧wr.ownsRow w.heap.size 5 1 v5 (r.length + 1 + z + j) (bs (r++[128]++zeros z++lenB n j))∧Below w.heap.size w wr)
   (fun _ q _=>(intOf q + 8).toNat)
  case atStart=>exact ⟨0,by omega,by go_num,o3,b2⟩
  case round =>
   clear o3 b2
   obtain ⟨j,hj,rfl,hown,hbel⟩:=hrel
   have HO:=hide hown
   have HB:=hide hbel
   clear hown hbel
   have hsz:=HB.out.size
   by_cases hlt:j < 8
   ·have hsh:((56:Int) - 8 * (j:Int)).toNat=8 * (7 - j):=by omega
    go_wp2_with ((with_reducible refine at_slot 29 ?_); refine wpList_app _ rfl (.tmp 22) (.tmp 28) _ rfl w.heap.size 5 i0 _ 1 Tryz.underlying39 hi0 hz0 hz1 hz2 rfl _ _ _ rfl (HO.out.alloc _) _ _ rfl (rd_one _ _ _) (bs_one _) (by rw [bs_length]; simp only [maxLen,List.length_singleton]; omega) (by rw [bs_length]; simp only [List.length_singleton]; omega) (by simp; omega) ?_; intro v3 w3 own3 gr3)
    go_roundw
    case rel=>exact ⟨j + 1,by omega,by go_num,own_len (own_cells own3 (by rw [lenB,← List.append_assoc,bs_append _ [_]])) (by simp [bs]; omega),Below.row (HB.out.alloc hsz _) (by simp; omega) (HO.out.alloc _) gr3⟩
    case measure=>simp [intOf]; omega
   ·obtain rfl:j=8:=by omega
    go_wp2
    go_ret
    refine ⟨_,rfl,own_len (own_cells HO.out ?_) ?_,HB.out⟩
    ·rw [tailB,HZP.out]; simp
    ·rw [List.length_append,tailB_len,HZP.out]; omega
end Go.Proofs.YtgaadpkefncnmaaGreatDoor
/-
  The model's Mentions.
-/
namespace Go.Proofs.YtgaadpkefncnmaaGreatDoor
open Go.RowKit
set_option linter.unusedVariables false
set_option maxRecDepth 20000 in
set_option maxHeartbeats 800000 in
theorem specMent (b n:List Int) (hB:Byt b) (hN:Byt n) (h0:0 < n.length) (vb vn:Value) (w:World) (hb:Rd w vb (bs b)) (hn:Rd w vn (bs n)) (hl:b.length≤1099511627776) (hln:n.length≤1099511627776) :
  Calls Tryz.prog 161 #[vb,vn] w fun e w'=>e=.returned (.bool (contL b n))∧Below w.heap.size w w':=by
 obtain ⟨A,c,rfl,hc1,hc2,hrd⟩:=hb
 obtain ⟨A',c',hV',hc1',hc2',_⟩:=id hn
 rw [bs_length] at *
 subst hV'
 have HC2:=hide hc2
 unfold maxLen at hc2 hc2'
 obtain ⟨N,hNl⟩:∃ N,n.length=N:=⟨_,rfl⟩
 obtain ⟨M,hMl⟩:∃ M,b.length=M:=⟨_,rfl⟩
 obtain ⟨R,hR⟩:∃ R,contL b n=R:=⟨_,rfl⟩
 have HR:Hid (contF b n (b.length + 1 - 0) 0=R):=by rw [← hR,contL]; exact hide rfl
 rw [hR]
 rw [hNl] at hn hc1' h0 hln ⊢
 rw [hMl] at hc1 hl hrd ⊢
 have HN:=hide hn
 have HRD:=hide hrd
 have HNL:=hide hNl
 have HML:=hide hMl
 clear hR hn hrd hNl hMl
 go_enter Tryz.func161,Tryz.ntmps161
 go_wp2
 go_loopw [5] (fun i wr=>∃ k:Nat,k≤M + 1∧i=.int .i64 k∧Hid (contF b n (b.length + 1 - k) k=R)∧Below w.heap.size w wr) (fun i _=>M + 1 - (intOf i).toNat)
 case atStart=>exact ⟨0,by omega,rfl,HR,Below.refl _ _⟩
 case round =>
  obtain ⟨k,hk,rfl,hx,hbel⟩:=hrel
  have HB:=hide hbel
  by_cases hlt:k + N≤M
  ·obtain ⟨bb,off,rfl,hblt,hcell⟩:=HRD.out (by omega)
   have hm:=contF_more (b:=b) (n:=n) (k:=k) (by rw [HML.out]; omega)
   rw [hx.out] at hm
   have r1:∀ m,Rd (wr.drewN m) (.slice (some ⟨bb,off + k,none⟩) N (c - k)) (bs ((b.drop k).take N)):=fun m=>Rd.part (fun i u hu=>(hbel.cell (p:=⟨bb,off + i,none⟩) hblt).trans (hcell i u hu)) (Nat.lt_of_lt_of_le hblt hbel.size) (by rw [HML.out]; exact hlt) (by rw [HML.out]; exact hc1) HC2.out rfl
   have r2:∀ m,Rd (wr.drewN m) (.slice A' N c') (bs n):=fun m=>HN.out.below (below_drewN hbel m)
   have cw1:=fun m=>conv_rd (P:=Tryz.prog) Tryz.underlying39 Tryz.underlying5 Tryz.underlying9 (r1 m)
   have cw2:=fun m=>conv_rd (P:=Tryz.prog) Tryz.underlying39 Tryz.underlying5 Tryz.underlying9 (r2 m)
   have cv1:=cw1 0
   have cv2:=cw2 0
   have hpiece:((strOfNums ((b.drop k).take N)).toList == (strOfNums n).toList)=atL b n k:=by
    rw [atL]
    by_cases h:(b.drop k).take n.length=n
    ·rw [HNL.out] at h ⊢
     rw [h,decide_eq_true ⟨by rw [HML.out]; exact hlt,rfl⟩]; simp
    ·rw [decide_eq_false (fun h2=>h h2.2)]
     simp only [beq_eq_false_iff_ne]
     intro e
     refine h ?_
     rw [HNL.out]
     exact str_inj ((hB.drop k).take _) hN e
   have k0:(k:Int) + (N:Int)≤(M:Int):=by omega
   have k1:(k:Int) + (N:Int)≤(c:Int):=by omega
   have k2:IntKind.i64.wrap ((k:Int) + (N:Int))=(k:Int) + (N:Int):=IntWalk.i64_in _ (by omega)
   have k3:(0:Int)≤(k:Int):=by omega
   have k4:(k:Int).toNat=k:=by omega
   have k5:((k:Int) + (N:Int)).toNat=k + N:=by omega
   have k6:k + N - k=N:=by omega
   have k7:(k:Int)≤(k:Int) + (N:Int):=by omega
   have k8:¬ c=k:=by omega
   have HM:=hide hm
   clear hm hbel hcell r1 r2
   generalize strOfNums ((b.drop k).take N)=s1 at *
   generalize strOfNums n=s2 at *
   cases hat:atL b n k with
   | true =>
     rw [hat] at hpiece
     have hR1:R=true:=by have:=HM.out; rw [hat] at this; simpa using this
     have HR1:=hide hR1
     clear hR1 hat
     go_upto_region 4 with (fail)
     go_quiet (fail)
     go_wp2
     go_ret
     exact ⟨ret_bool HR1.out.symm,below_drewN HB.out _⟩
   | false =>
     rw [hat] at hpiece
     have hm2:contF b n (b.length + 1 - (k + 1)) (k + 1)=R:=by have:=HM.out; rw [hat] at this; simpa using this.symm
     have HM2:=hide hm2
     clear hm2 hat
     go_upto_region 4 with (fail)
     go_quiet (fail)
     go_wp2
     go_roundw
     case rel=>exact ⟨k + 1,by omega,by go_num,HM2,below_drewN HB.out _⟩
     case measure=>simp [intOf]; omega
  ·have hR1:R=false:=by rw [← hx.out,contF_end (by rw [HML.out,HNL.out]; omega)]
   have HR1:=hide hR1
   have k0:¬ (k:Int) + (N:Int)≤(M:Int):=by omega
   clear hR1 hbel
   go_wp2
   go_ret
   exact ⟨ret_bool HR1.out.symm,HB.out⟩
end Go.Proofs.YtgaadpkefncnmaaGreatDoor
/-
  The program's hash: the bytes of the result.
-/
namespace Go.Proofs.YtgaadpkefncnmaaGreatDoor
open Go.RowKit
set_option linter.unusedVariables false
set_option maxRecDepth 20000 in
set_option maxHeartbeats 1600000 in
theorem hashSum (ws:List Int) (h8:ws.length=8) (hu:U32 ws) (g:Nat) (w:World) (hg:At w g 270 (wd ws)) :
  Calls Tryz.prog 254 #[.pointer (some ⟨g,0,none⟩)] w fun e w'=>∃ v',e=.returned v'∧Own 5 w.heap.size w'.heap.size w' v' (bs (outB ws))∧Below w.heap.size w w':=by
 obtain ⟨i0,hi0,hz0,hz1,hz2⟩:=info_parts u8info
 have HG:=hide hg
 have H8:=hide h8
 clear hg h8
 go_enter Tryz.func254,Tryz.ntmps254
 go_wp2
 go_loopw [3,7] (fun v3 q wr=>∃ k:Nat,k≤8∧q=.int .i64 k∧wr.ownsRow w.heap.size 5 1 v3 (4 * k) (bs (outB (ws.take k)))∧Below w.heap.size w wr)
  (fun _ q _=>8 - (intOf q).toNat)
 case atStart=>exact ⟨0,by omega,rfl,own_cells (World.ownsRow_nil _ _ _ _) rfl,Below.refl _ _⟩
 case round =>
  obtain ⟨k,hk,rfl,hown,hbel⟩:=hrel
  have HO:=hide hown
  have HB:=hide hbel
  clear hown hbel
  have hsz:=HB.out.size
  by_cases hlt:k < 8
  ·have hc:=(HG.out.below HB.out HG.out.lt).cell (i:=k) (by rw [H8.out]; exact hlt)
   obtain ⟨x0,x1⟩:=hu.at_ k
   have hnx:=outB_next (l:=ws) (k:=k) (by rw [H8.out]; exact hlt)
   generalize ws.getD k 0=x at *
   have HN:=hide hnx
   clear hnx
   go_wp2_with ((with_reducible refine at_slot 25 ?_); refine wpList_app _ rfl (.tmp 12) (.tmp 24) _ rfl w.heap.size 5 i0 _ 1 Tryz.underlying39 hi0 hz0 hz1 hz2 rfl _ _ _ rfl (HO.out.alloc _) _ _ rfl (rd_four _ _ _ _ _ _) (bs_one _) (by rw [bs_length]; simp only [maxLen,List.length_cons,List.length_nil]; omega) (by rw [bs_length]; simp only [List.length_cons,List.length_nil]; omega) (by simp; omega) ?_; intro v3 w3 own3 gr3)
   go_roundw
   case rel=>exact ⟨k + 1,by omega,by go_num,own_len (own_cells own3 (by rw [HN.out,bs_append,show x / 16777216 % 256=x / 16777216 by omega])) (by simp [bs]; omega),Below.row (HB.out.alloc hsz _) (by simp; omega) (HO.out.alloc _) gr3⟩
   case measure=>simp [intOf]; omega
  ·obtain rfl:k=8:=by omega
   go_wp2
   go_ret
   have e:outB (ws.take 8)=outB ws:=by rw [List.take_of_length_le (by rw [H8.out]; omega)]
   exact ⟨_,rfl,Own.of (own_cells HO.out (by rw [e])) (by rw [bs_length,outB_len,H8.out]),HB.out⟩
end Go.Proofs.YtgaadpkefncnmaaGreatDoor
/-
  The model's Sorted.
-/
namespace Go.Proofs.YtgaadpkefncnmaaGreatDoor
open Go.RowKit
set_option linter.unusedVariables false
set_option maxRecDepth 20000 in
set_option maxHeartbeats 1600000 in
theorem specSorted (ns:List (List Int)) (hB:BytN ns) (v:Value) (w:World) (hv:RdN w v ns) (hl:∀ n∈ns,n.length≤1048576) :
  Calls Tryz.prog 109 #[v] w fun e w'=>e=.returned (.bool (ascP nameOk ns))∧Below w.heap.size w w':=by
 obtain ⟨vs,A,c,hV,hc1,hc2,hvl⟩:∃ (vs:List Value) (A:Option Addr) (c:Nat),v=.slice A ns.length c∧ns.length≤c∧c≤maxLen∧vs.length=ns.length:=by
  obtain ⟨vs,⟨A,c,e,h1,h2,_⟩,h4,_⟩:=hv
  rw [h4] at e h1
  exact ⟨vs,A,c,e,h1,h2,h4⟩
 subst hV
 obtain ⟨N,hN⟩:∃ N,ns.length=N:=⟨_,rfl⟩
 rw [hN] at hc1 hv ⊢
 unfold maxLen at hc2
 have HNL:=hide hN
 have HNN:=hide hv
 have HBN:=hide hB
 have HLL:=hide hl
 obtain ⟨R,hR⟩:∃ R,ascP nameOk ns=R:=⟨_,rfl⟩
 rw [hR]
 have HR:=hide hR
 clear hN hv hB hl hvl hR
 go_enter Tryz.func109,Tryz.ntmps109
 go_wp2
 go_loopw [3] (fun i wr=>∃ j:Nat,j≤N∧i=.int .i64 j∧Hid (∀ m,m < j→nameP nameOk ns m=true)∧Below w.heap.size w wr)
  (fun i _=>N - (intOf i).toNat)
 case atStart=>exact ⟨0,Nat.zero_le _,rfl,hide (fun m hm=>by omega),Below.refl _ _⟩
 case round =>
  obtain ⟨j,hj,rfl,HNM,hbel⟩:=hrel
  have HB:=hide hbel
  by_cases hlt:j < N
  ·have hjn:j < ns.length:=by rw [HNL.out]; exact hlt
   obtain ⟨b,off,u,hA',hblt,cu,ru⟩:=HNN.out.get hjn
   subst hA'
   have q1:=(hbel.cell (p:=⟨b,off + j,none⟩) hblt).trans cu
   have rr1:=ru.below hbel
   have hmj:ns.getD j []∈ns:=by simp [List.getD,List.getElem?_eq_getElem hjn]
   have hBj:Byt (ns.getD j []):=HBN.out _ hmj
   have hLj:=HLL.out _ hmj
   have hnm:nameP nameOk ns j=(nameOk (ns.getD j []) && (decide (j=0) || lessL (ns.getD (j - 1) []) (ns.getD j []))):=rfl
   have hent:∀ W,Rd W u (bs (ns.getD j []))→Calls Tryz.prog 95 #[u] W fun e w'=>e=.returned (.bool (nameOk (ns.getD j [])))∧∃ m,w' = W.drewN m:=fun W hr=>(specNameQ (ns.getD j []) hBj u W hr (by omega)).mono fun e w' ⟨he,hw⟩=>⟨he,0,hw.symm⟩
   have k1:(j:Int) < (N:Int):=by omega
   have k0:(0:Int)≤(j:Int):=by omega
   have k2:(j:Int).toNat=j:=by omega
   go_upto_region 4 with (fail)
   go_cut [33] (fun v wx=>v=.bool (!nameP nameOk ns j)∧∃ m,wx=wr.drewN m)
   case first =>
    have HE:=hide hent
    have hq:∀ m,Rd (wr.drewN m) u (bs (ns.getD j [])):=fun m=>rr1
    have HQ:=hide hq
    have HNA:=hide hnm
    have hnn:=HNN.out
    clear hent hq hnm
    cases he:nameOk (ns.getD j []) with
    | false =>
      rw [he] at HE HNA
      clear he hbel hnn
      go_quiet ((go_at_call 95; exact Calls.quiet_of (HE.out _ (HQ.out _))))
      go_wp2
      go_meet
      exact ⟨by rw [HNA.out]; rfl,_,rfl⟩
    | true =>
      rw [he,Bool.true_and] at HNA
      rw [he] at HE
      clear he
      by_cases hj0:j=0
      ·subst hj0
       have q1' : wr.cell? ⟨b,off,none⟩=some u:=by simpa using q1
       clear hbel hnn
       go_quiet ((go_at_call 95; exact Calls.quiet_of (HE.out _ (HQ.out _))))
       go_wp2
       go_meet
       exact ⟨by rw [HNA.out]; rfl,_,rfl⟩
      ·rw [decide_eq_false hj0,Bool.false_or] at HNA
       obtain ⟨b2,off2,u2,hA2,_,cu2,ru2⟩:=hnn.get (m:=j - 1) (by omega)
       injection hA2 with hA3
       injection hA3 with hA4 hA5
       subst hA4 hA5
       have q2:=(hbel.cell (p:=⟨b,off + (j - 1),none⟩) hblt).trans cu2
       have rr2:=ru2.below hbel
       have hBi:Byt (ns.getD (j - 1) []):=HBN.out _ (by simp [List.getD,List.getElem?_eq_getElem (show j - 1 < ns.length by omega)])
       have cv1:=conv_rd (P:=Tryz.prog) Tryz.underlying39 Tryz.underlying5 Tryz.underlying9 rr1
       have cv2:=conv_rd (P:=Tryz.prog) Tryz.underlying39 Tryz.underlying5 Tryz.underlying9 rr2
       have cw1:=fun m=>conv_rd (P:=Tryz.prog) Tryz.underlying39 Tryz.underlying5 Tryz.underlying9 (show Rd (wr.drewN m) u (bs (ns.getD j [])) from rr1)
       have cw2:=fun m=>conv_rd (P:=Tryz.prog) Tryz.underlying39 Tryz.underlying5 Tryz.underlying9 (show Rd (wr.drewN m) u2 (bs (ns.getD (j - 1) [])) from rr2)
       have hls:=less_str hBi hBj
       have k3:(j:Int) - 1 < (N:Int):=by omega
       have k4:(0:Int)≤(j:Int) - 1:=by omega
       have k5:((j:Int) - 1).toNat=j - 1:=by omega
       have k6:IntKind.i64.wrap ((j:Int) - 1)=(j:Int) - 1:=IntWalk.i64_in _ (by omega)
       have k7:0 < j:=by omega
       generalize lessL (ns.getD (j - 1) []) (ns.getD j [])=L at *
       generalize strOfNums (ns.getD (j - 1) [])=s1 at *
       generalize strOfNums (ns.getD j [])=s2 at *
       clear hbel hnn rr2 hBi hBj hj0
       cases L with
       | true =>
         go_quiet ((go_at_call 95; exact Calls.quiet_of (HE.out _ (HQ.out _))))
         go_wp2
         go_meet
         exact ⟨by rw [HNA.out]; rfl,_,rfl⟩
       | false =>
         go_quiet ((go_at_call 95; exact Calls.quiet_of (HE.out _ (HQ.out _))))
         go_wp2
         go_meet
         exact ⟨by rw [HNA.out]; rfl,_,rfl⟩
   case rest =>
    obtain ⟨hv,m,hwm⟩:=hcut
    subst hwm
    have HB2:=hide (below_drewN hbel m)
    clear q1 cu ru rr1 hent hnm hBj hbel
    cases hna:nameP nameOk ns j with
    | false =>
      rw [hna] at hv
      subst hv
      have hm1:R=false:=by
       rw [← HR.out,Bool.eq_false_iff]
       intro h
       rw [ascP_at.1 h j hjn] at hna
       cases hna
      have HM1:=hide hm1
      clear hm1 hna
      go_wp2
      go_ret
      exact ⟨ret_bool HM1.out.symm,HB2.out⟩
    | true =>
      rw [hna] at hv
      subst hv
      have HNM2:Hid (∀ m,m < j + 1→nameP nameOk ns m=true):=hide (fun m hm=>by
       by_cases h:m=j
       ·subst h; exact hna
       ·exact HNM.out m (by omega))
      clear hna
      go_wp2
      go_roundw
      case rel=>exact ⟨j + 1,by omega,by go_num,HNM2,HB2.out⟩
      case measure=>simp [intOf]; omega
  ·obtain rfl:j=N:=by omega
   have hm1:R=true:=by rw [← HR.out]; exact ascP_at.2 (fun m hm=>HNM.out m (by rw [HNL.out] at hm; exact hm))
   have HM1:=hide hm1
   clear hm1 hbel
   go_wp2
   go_ret
   exact ⟨ret_bool HM1.out.symm,HB.out⟩
end Go.Proofs.YtgaadpkefncnmaaGreatDoor
/-
  The model's Scan.
-/
namespace Go.Proofs.YtgaadpkefncnmaaGreatDoor
open Go.RowKit
set_option linter.unusedVariables false
/-- What Scan answers. -/
def scanL (b:List Int) (ns:List (List Int)):List (List Int):=ns.filter fun n=>contL b n
def scanOf (b:List Int) (ns:List (List Int)):List (List Int):=if ascP nameOk ns then scanL b ns else []
theorem scanL_next {b:List Int} {ns:List (List Int)} {j:Nat} (h:j < ns.length):scanL b (ns.take (j + 1))=if contL b (ns.getD j []) then scanL b (ns.take j)++[ns.getD j []] else scanL b (ns.take j):=by
 have e:ns.getD j []=ns[j]:=by simp [List.getD,List.getElem?_eq_getElem h]
 rw [e,scanL,List.take_succ_eq_append_getElem h,List.filter_append]
 by_cases hc:contL b ns[j]=true
 ·rw [if_pos hc]; simp [scanL,hc]
 ·rw [if_neg hc]; simp [scanL,hc]
theorem scanL_le (b:List Int) (ns:List (List Int)):(scanL b ns).length≤ns.length:=List.length_filter_le _ _
set_option maxRecDepth 20000 in
set_option maxHeartbeats 1600000 in
theorem ownAll (ns:List (List Int)) (v:Value) (w:World) (hv:RdN w v ns) (hn:ns.length≤1048576) (hl:∀ n∈ns,n.length≤1048576) :
  Calls Tryz.prog 72 #[v] w fun e w'=>∃ v',e=.returned v'∧OwnS w.heap.size w' v' ns∧Below w.heap.size w w':=by
 obtain ⟨i0,hi0,hz0,hz1,hz2⟩:=info_parts namesInfo
 obtain ⟨j0,hj0,hy0,hy1,hy2⟩:=info_parts u8info
 obtain ⟨A,c,rfl,hc1,hc2⟩:=names_len hv
 obtain ⟨N,hN⟩:∃ N,ns.length=N:=⟨_,rfl⟩
 rw [hN] at hc1 hv hn ⊢
 unfold maxLen at hc2
 have HNL:=hide hN
 have HNN:=hide hv
 have HLL:=hide hl
 clear hN hv hl
 go_enter Tryz.func72,Tryz.ntmps72
 go_wp2
 go_loopw [3,4] (fun u i wr=>∃ j:Nat,j≤N∧i=.int .i64 j∧Hid (OwnS w.heap.size wr u (ns.take j))∧Below w.heap.size w wr)
  (fun _ i _=>N - (intOf i).toNat)
 case atStart=>exact ⟨0,Nat.zero_le _,rfl,hide (OwnS.nil _ _),Below.refl _ _⟩
 case round =>
  obtain ⟨j,hj,rfl,HO,hbel⟩:=hrel
  have HB:=hide hbel
  by_cases hlt:j < N
  ·have hjn:j < ns.length:=by rw [HNL.out]; exact hlt
   obtain ⟨b,off,x,hA',hblt,cx,rx⟩:=HNN.out.get hjn
   subst hA'
   have q1:=(hbel.cell (p:=⟨b,off + j,none⟩) hblt).trans cx
   have rr1:=rx.below hbel
   have hmj:ns.getD j []∈ns:=by simp [List.getD,List.getElem?_eq_getElem hjn]
   have hlj:=HLL.out _ hmj
   obtain ⟨us,hU⟩:=HO.out
   have hul:us.length=j:=by rw [hU.len,List.length_take]; omega
   have htk:ns.take (j + 1)=ns.take j++[ns.getD j []]:=by
    rw [List.take_succ_eq_append_getElem hjn]
    simp [List.getD,List.getElem?_eq_getElem hjn]
   generalize ns.getD j []=n at *
   have HU:=hide hU
   have HT:=hide htk
   have HUL:=hide hul
   have hlw:w.heap.size≤wr.heap.size:=hbel.size
   have k1:(j:Int) < (N:Int):=by omega
   have k0:(0:Int)≤(j:Int):=by omega
   have k2:(j:Int).toNat=j:=by omega
   have RR:=hide rr1
   have blt:b < wr.heap.size:=Nat.lt_of_lt_of_le hblt hbel.size
   clear hU htk hul HO cx rx rr1 hbel
   go_wp2_with (first
    | (at_builtin; refine wpList_app _ rfl (.tmp 12) (.tmp 16) _ rfl wr.heap.size 5 j0 _ 1 Tryz.underlying39 hj0 hy0 hy1 hy2 rfl _ 0 [] rfl (own_lit0 wr _) _ (bs n) rfl (RR.out.alloc _) (bs_one n) (by simp [bs,maxLen]; omega) (by simp [bs]; omega) (by simp) ?_; intro v2 w2 own2 gr2; have HB2:=hide (below_app0 gr2); have HO2:=hide (own_len (own_cells own2 (List.nil_append _)) (by simp [bs]:_=n.length)); obtain ⟨A2,c2,hu2,-,-⟩:=own_slice HO2.out; subst hu2; have row2:=hide (own_step HU.out.row HB2.out); have hl2:w.heap.size≤w2.heap.size:=Nat.le_trans hlw HB2.out.size; clear own2 gr2)
    | (at_builtin; refine wpList_app _ rfl (.tmp 11) (.tmp 18) _ rfl w.heap.size 39 i0 _ 24 Tryz.underlying23 hi0 hz0 hz1 hz2 rfl _ _ _ rfl (row2.out.alloc _) _ _ rfl (rd_oneV _ _ _) slice_one (by rw [HUL.out]; simp [maxLen]; omega) (by rw [HUL.out]; simp; omega) (by simp; omega) ?_; intro v3 w3 own3 gr3; have HS3:Hid (OwnS w.heap.size w3 v3 (ns.take (j + 1))):=hide (by rw [HT.out]; exact ⟨_,HU.out.snoc HB2.out HO2.out hlw _ own3 gr3⟩); have HB3:=hide (Below.row ((HB.out.trans (HB2.out.mono HB.out.size)).alloc hl2 _) (by simp; omega) (row2.out.alloc _) gr3); clear own3 gr3))
   go_roundw
   case rel=>exact ⟨j + 1,by omega,by go_num,HS3,HB3.out⟩
   case measure=>simp [intOf]; omega
  ·obtain rfl:j=N:=by omega
   have e2:ns.take j=ns:=List.take_of_length_le (by rw [HNL.out]; omega)
   rw [e2] at HO
   clear hbel e2
   go_wp2
   go_ret
   exact ⟨_,rfl,HO.out,HB.out⟩
/-- A row of slices that were there before: each reads as a text. -/
structure AlU (lo:Nat) (w0 w:World) (v:Value) (ns:List (List Int)) (us:List Value):Prop where
 len:us.length=ns.length
 row:w.ownsRow lo 39 1 v us.length us
 each:∀ i u,us[i]? = some u→Rd w0 u (bs (ns.getD i []))
def AlS (lo:Nat) (w0 w:World) (v:Value) (ns:List (List Int)):Prop:=∃ us,AlU lo w0 w v ns us
theorem AlS.rd {lo:Nat} {w0 w:World} {v:Value} {ns:List (List Int)} (h:AlS lo w0 w v ns) (hb:Below w0.heap.size w0 w):RdN w v ns:=h.elim fun us h =>
 ⟨us,own_rdV h.row rfl,h.len,fun i u hu=>(h.each i u hu).below hb⟩
theorem AlS.nil (lo:Nat) (w0 w:World):AlS lo w0 w (.slice none 0 0) []:=⟨[],rfl,World.ownsRow_nil _ _ _ _,fun i u hu=>by simp at hu⟩
theorem AlU.snoc {lo:Nat} {w0 W W3:World} {v v' u:Value} {ns:List (List Int)} {n:List Int} {us:List Value} (h:AlU lo w0 W v ns us) (hu:Rd w0 u (bs n)) (own' : W3.ownsRow lo 39 1 v' (us.length + 1) (us++[u])):AlU lo w0 W3 v' (ns++[n]) (us++[u]):=by
 refine ⟨by simp [h.len],own_len own' (by simp),fun i x hx=>?_⟩
 rcases Nat.lt_or_ge i us.length with hi | hi
 ·rw [List.getElem?_append_left hi] at hx
  rw [getD_app (by rw [← h.len]; exact hi)]
  exact h.each i x hx
 ·have hi2:i=us.length:=by
   have:=(List.getElem?_eq_some_iff.1 hx).1
   simp at this
   omega
  subst hi2
  rw [List.getElem?_append_right (Nat.le_refl _),Nat.sub_self] at hx
  obtain rfl:u=x:=by simpa using hx
  rw [h.len,getD_last]
  exact hu
theorem AlU.step {lo:Nat} {w0 w w' : World} {v:Value} {ns:List (List Int)} {us:List Value} (h:AlU lo w0 w v ns us) (hb:Below w.heap.size w w'):AlU lo w0 w' v ns us:=⟨h.len,own_step h.row hb,h.each⟩
theorem asc_names {ns:List (List Int)} (h:ascP nameOk ns=true):∀ n∈ns,n.length=16:=by
 intro n hn
 obtain ⟨m,hm,rfl⟩:=List.getElem_of_mem hn
 have:=ascP_at.1 h m hm
 rw [nameP,Bool.and_eq_true] at this
 have h1:=this.1
 simp [List.getD,List.getElem?_eq_getElem hm] at h1
 rw [nameOk,Bool.and_eq_true,decide_eq_true_eq] at h1
 exact h1.1
end Go.Proofs.YtgaadpkefncnmaaGreatDoor
/-
  The program's Scan: what the rounds keep.
-/
namespace Go.Proofs.YtgaadpkefncnmaaGreatDoor
open Go.RowKit Go.Maps Go.ChangeShapes Go.WideMaps
set_option linter.unusedVariables false
theorem grown_none {w w' : World} (hb:Below w.heap.size w w'):w.grownBy w' none:=⟨hb.os,hb.tape,hb.output,hb.size,fun i hi _=>hb.block i hi⟩
theorem groups_below {H:Type} {P:Program} {k:TypeId} {w w' : World} {base:Nat} {e:TypeId} {q:IntKind} {b n:Nat} {D:DataW H} (h:w.ownsGroups P k base e q b n D) (hb:Below w.heap.size w w'):w'.ownsGroups P k base e q b n D :=
 h.kept (grown_none hb) (by simp) (fun es clock _ x _=>by cases x.val.ownBlock <;> simp)
theorem shuns_all {H:Type} {P:Program} {k:TypeId} {w w' : World} {base:Nat} {e:TypeId} {q:IntKind} {b n:Nat} {D:DataW H} (h:w.ownsGroups P k base e q b n D) (hblt:b < w.heap.size) (hb:Below w.heap.size w w'):w'.Shuns b (fun g=>w.heap.size≤g):=by
 have h0:w.Shuns b (fun _=>False):=fun es clock _ x _ g _ hf=>hf
 have h1:w.Shuns b (fun g=>w.heap.size≤g):=h0.reno h (fun g hg=>.inr hg)
 exact h1.kept (grown_none hb) hblt (by simp)
/-- The places before k have been looked at. -/
def seen (b n:List Int) (k:Nat):Bool:=(List.range k).any fun i=>atL b n i
theorem seen_zero (b n:List Int):seen b n 0=false:=rfl
theorem seen_next (b n:List Int) (k:Nat):seen b n (k + 1)=(seen b n k || atL b n k):=by
 rw [seen,List.range_succ,List.any_append]
 simp [seen]
theorem seen_end {b n:List Int} {k:Nat} (h:b.length < k + n.length):seen b n k=contL b n:=by
 rw [Bool.eq_iff_iff,contL_iff,seen,List.any_eq_true]
 constructor
 ·rintro ⟨i,_,hi⟩; exact ⟨i,hi⟩
 ·rintro ⟨i,hi⟩
  have h2:=of_decide_eq_true hi
  exact ⟨i,List.mem_range.2 (by omega),hi⟩
/-- A row of bools. -/
def OB (w:World) (lo B N:Nat) (f:Nat→Bool):Prop:=w.ownsRow lo 4 1 (.slice (some ⟨B,0,none⟩) N N) N ((List.range N).map fun j=>Value.bool (f j))
theorem OB.step {w w' : World} {lo B N:Nat} {f:Nat→Bool} (h:OB w lo B N f) (hb:Below w.heap.size w w'):OB w' lo B N f:=own_step h hb
theorem OB.eq {w:World} {lo B N:Nat} {f g:Nat→Bool} (h:OB w lo B N f) (he:∀ j,j < N→f j=g j):OB w lo B N g:=by
 unfold OB at *
 have:(List.range N).map (fun j=>Value.bool (f j))=(List.range N).map (fun j=>Value.bool (g j)):=List.map_congr_left (fun j hj=>by rw [he j (List.mem_range.1 hj)])
 rw [← this]
 exact h
theorem OB.cell {w:World} {lo B N:Nat} {f:Nat→Bool} (h:OB w lo B N f) {j:Nat} (hj:j < N):w.cell? ⟨B,j,none⟩=some (.bool (f j)):=by
 have:=World.ownsRow.cellAt h j (by omega)
 rw [this,List.getElem?_map,List.getElem?_range hj]
 rfl
theorem OB.fz {w:World} {lo B N:Nat} {f:Nat→Bool} (h:OB w lo B N f) (j:Nat):w.frozen? ⟨B,j,none⟩=false:=World.ownsRow.frozenAt h j
theorem OB.set {w:World} {lo B N:Nat} {f:Nat→Bool} (h:OB w lo B N f) (p:Nat):OB (w.setCell ⟨B,p,none⟩ (.bool true)) lo B N (fun j=>f j || decide (j=p)):=by
 have:=(World.ownsRow.stored h p (.bool true)).1
 unfold OB
 have e:((List.range N).map (fun j=>Value.bool (f j))).set p (.bool true)=(List.range N).map (fun j=>Value.bool (f j || decide (j=p))):=by
  apply List.ext_getElem?
  intro j
  rw [List.getElem?_set,List.getElem?_map,List.getElem?_map]
  by_cases hj:j < N
  ·rw [List.getElem?_range hj]
   by_cases hp:p=j
   ·subst hp; simp [hj]
   ·rw [if_neg hp]
    simp [Ne.symm hp]
  ·rw [List.getElem?_eq_none (by simp; omega)]
   by_cases hp:p=j
   ·simp [hp]; omega
   ·simp [hp]
 rw [← e]
 exact this
/-- Inside a round: the places before r of zs have been looked at, too. -/
def inF (b:List Int) (ns:List (List Int)) (zs:List Int) (k r:Nat) (j:Nat):Bool:=seen b (ns.getD j []) k || ((zs.take r).contains (j:Int) && atL b (ns.getD j []) k)
theorem inF_zero (b:List Int) (ns:List (List Int)) (zs:List Int) (k j:Nat):inF b ns zs k 0 j=seen b (ns.getD j []) k:=by simp [inF]
theorem inF_next {b:List Int} {ns:List (List Int)} {zs:List Int} {k r p:Nat} (hr:r < zs.length) (hp:zs.getD r 0=(p:Int)) (j:Nat):inF b ns zs k (r + 1) j=(inF b ns zs k r j || (decide (j=p) && atL b (ns.getD p []) k)):=by
 have e:zs[r]=(p:Int):=by rw [← hp]; simp [List.getD,List.getElem?_eq_getElem hr]
 have hc:(zs.take (r + 1)).contains (j:Int)=((zs.take r).contains (j:Int) || decide (j=p)):=by
  have hi:((j:Int)=(p:Int))↔j=p:=by omega
  rw [List.take_succ_eq_append_getElem hr,e,Bool.eq_iff_iff]
  simp [hi]
 rw [inF,hc,inF]
 by_cases h:j=p
 ·subst h
  cases seen b (ns.getD j []) k <;> cases atL b (ns.getD j []) k <;> cases (zs.take r).contains (j:Int) <;> simp
 ·simp [h]
theorem inF_end {b:List Int} {ns:List (List Int)} {k:Nat} (h16:∀ n∈ns,n.length=16) {j:Nat} (hj:j < ns.length) {N:Nat} (hN:ns.length=N) :
  inF b ns (plc ns (((b.drop k).take 16).take 4) N) k (plc ns (((b.drop k).take 16).take 4) N).length j=seen b (ns.getD j []) (k + 1):=by
 rw [inF,List.take_length,seen_next]
 cases hat:atL b (ns.getD j []) k with
 | false=>simp
 | true =>
   have h1:=of_decide_eq_true hat
   have hm:ns.getD j []∈ns:=by simp [List.getD,List.getElem?_eq_getElem hj]
   rw [h16 _ hm] at h1
   have:(j:Int)∈plc ns (((b.drop k).take 16).take 4) N:=mem_plc (by omega) (by rw [h1.2])
   simp [this]
end Go.Proofs.YtgaadpkefncnmaaGreatDoor
