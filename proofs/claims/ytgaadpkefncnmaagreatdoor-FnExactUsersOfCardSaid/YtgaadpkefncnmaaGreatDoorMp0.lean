/-
  Parts of the proof: Base, ShelfM, ShelfY, ShelfYB, ShelfZ, App, B32P, Lift, Own, Arr, Bytes, Clone, Loop, B32, Conv, Dat, Put, Tree, BytEq, DatT, DatV, Less, MapV, OwnN, PutI, Row, TreeSz, AscP, CopyT, DMark.
-/
import Derived.WalkKit
import Derived.WalkSpells
import Derived.WalkLawsBesides
import Derived.WalkSmall
import Derived.Shelf.SlGeneric
import Derived.Ground.SlgmProg
import Derived.Shelf.SortM.Plain
import Derived.Shelf.SortM.SortNone
import Derived.Test.YtgaadpkefncnmaaGreatDoorProg
import Derived.Ground.GgzProg
import Derived.Shelf.SlIter.Nil
import Derived.Test.YtgaadpkefncnmaaGreatDoorRows
import Derived.ProofKit
import Derived.OpenShut
import Derived.ShutString
import Derived.ChangeOld
import Derived.Laws.Tables
import Derived.Deep.QuietTactic
import Derived.BigQuiet
import Derived.RangeFuncNested
import Derived.RangeFuncBound
import Derived.RangeFuncCalls
import Derived.RangeFuncLeaves
import Derived.Laws.BytesArg
import Derived.Deep.MidRow
import Derived.StillTailTactics
import Derived.Deep.RegionWith
import Derived.Deep.RegionHeld3
import Derived.Lib.BytesEntry
import Derived.Maps.RangeWalk
import Derived.Maps.Views
import Derived.Maps.Keyed
import Derived.StringKeys
import Derived.Maps.AppendAt
/-
  Words for slices of one-cell elements: what a slice reads as, which blocks the call owns, what a write leaves alone. No program is named here.
-/
namespace Go.Proofs.YtgaadpkefncnmaaGreatDoor
open Go.RowKit
/-- A list of bytes as values. -/
def bs (l:List Int):List Value:=l.map (Value.int .u8)
theorem bs_length (l:List Int):(bs l).length=l.length:=by simp [bs]
theorem bs_get {l:List Int} {i:Nat} (h:i < l.length):(bs l)[i]? = some (.int .u8 (l.getD i 0)):=by
 simp [bs,List.getElem?_eq_getElem h,List.getD]
theorem bs_get_inv {l:List Int} {i:Nat} {u:Value} (h:(bs l)[i]? = some u):i < l.length∧u=.int .u8 (l.getD i 0):=by
 have hi:i < l.length:=by
  have:=(List.getElem?_eq_some_iff.1 h).1
  simpa [bs] using this
 rw [bs_get hi] at h
 exact ⟨hi,(Option.some.inj h).symm⟩
theorem bs_append (a b:List Int):bs (a++b)=bs a++bs b:=by simp [bs]
theorem bs_one (l:List Int):∀ u∈bs l,u.oneCell' = true:=ints_oneCell _ l
/-- Every number is a byte. -/
def Byt (l:List Int):Prop:=∀ x∈l,0≤x∧x≤255
theorem Byt.at_ {l:List Int} (h:Byt l) (i:Nat):0≤l.getD i 0∧l.getD i 0≤255:=by
 rw [List.getD]
 rcases Nat.lt_or_ge i l.length with hi | hi
 ·rw [List.getElem?_eq_getElem hi]
  exact h _ (List.getElem_mem hi)
 ·rw [List.getElem?_eq_none hi]
  simp
theorem Byt.nil:Byt []:=fun _ h=>by cases h
theorem Byt.app {a b:List Int} (ha:Byt a) (hb:Byt b):Byt (a++b):=fun x hx=>by
 rcases List.mem_append.1 hx with h | h
 ·exact ha x h
 ·exact hb x h
theorem Byt.one {x:Int} (h0:0≤x) (h1:x≤255):Byt [x]:=fun y hy=>by
 obtain rfl:=List.mem_singleton.1 hy
 exact ⟨h0,h1⟩
theorem Byt.take {l:List Int} (h:Byt l) (n:Nat):Byt (l.take n):=fun x hx=>h x (List.mem_of_mem_take hx)
theorem Byt.drop {l:List Int} (h:Byt l) (n:Nat):Byt (l.drop n):=fun x hx=>h x (List.mem_of_mem_drop hx)
/-- The slice v reads as the cells xs. -/
def Rd (w:World) (v:Value) (xs:List Value):Prop :=
 ∃ A c,v=.slice A xs.length c∧xs.length≤c∧c≤maxLen ∧
  (0 < xs.length→∃ b off,A=some ⟨b,off,none⟩∧b < w.heap.size∧∀ i u,xs[i]? = some u→w.cell? ⟨b,off + i,none⟩=some u)
/-- The same, for all slices whose block lies below B. -/
theorem Rd.below {w w' : World} {v:Value} {xs:List Value} (h:Rd w v xs) (hb:Below w.heap.size w w'):Rd w' v xs:=by
 obtain ⟨A,c,rfl,h1,h2,h3⟩:=h
 refine ⟨A,c,rfl,h1,h2,fun hp=>?_⟩
 obtain ⟨b,off,rfl,hlt,hc⟩:=h3 hp
 exact ⟨b,off,rfl,Nat.lt_of_lt_of_le hlt hb.size,fun i u hu=>(hb.cell (p:=⟨b,off + i,none⟩) hlt).trans (hc i u hu)⟩
/-- v is the call's own row: its block lies from lo on and below hi. -/
def Own (e:TypeId) (lo hi:Nat) (w:World) (v:Value) (xs:List Value):Prop :=
 w.ownsRow lo e 1 v xs.length xs∧hi≤w.heap.size∧∀ g,v.ownBlock=some g→g < hi
theorem Own.rd {e:TypeId} {lo hi:Nat} {w:World} {v:Value} {xs:List Value} (h:Own e lo hi w v xs):Rd w v xs:=by
 obtain ⟨h1,h2,h3⟩:=h
 rcases h1.2 with ⟨rfl,hn⟩ | ⟨g,cap,cur,rfl,hb,hg,hnc,hcm,hcs,ht⟩
 ·have hx:xs = []:=List.eq_nil_of_length_eq_zero hn
  subst hx
  exact ⟨none,0,rfl,Nat.le_refl _,Nat.zero_le _,fun h=>by simp at h⟩
 ·refine ⟨_,cap,rfl,hnc,hcm,fun hp=>⟨g,0,rfl,Nat.lt_of_lt_of_le (h3 g rfl) h2,fun i u hu=>?_⟩⟩
  rw [Nat.zero_add]
  rw [h1.cellAt i (by have:=(List.getElem?_eq_some_iff.1 hu).1; omega)]
  exact hu
theorem Own.below {e:TypeId} {lo hi:Nat} {w w' : World} {v:Value} {xs:List Value} (h:Own e lo hi w v xs) {B:Nat} (hb:Below B w w') (hB:hi≤B):Own e lo hi w' v xs:=by
 obtain ⟨h1,h2,h3⟩:=h
 refine ⟨⟨h1.1,?_⟩,Nat.le_trans h2 hb.size,h3⟩
 rcases h1.2 with hn | ⟨g,cap,cur,rfl,hbg,hg,rest⟩
 ·exact .inl hn
 ·exact .inr ⟨g,cap,cur,rfl,hbg,by rw [hb.block g (Nat.lt_of_lt_of_le (h3 g rfl) hB)]; exact hg,rest⟩
theorem Own.step {e:TypeId} {lo hi:Nat} {w w' : World} {v:Value} {xs:List Value} (h:Own e lo hi w v xs) (hb:Below w.heap.size w w'):Own e lo hi w' v xs:=h.below hb h.2.1
theorem Own.of {e:TypeId} {lo:Nat} {w:World} {v:Value} {n:Nat} {xs:List Value} (h:w.ownsRow lo e 1 v n xs) (hn:n=xs.length):Own e lo w.heap.size w v xs:=by
 subst hn
 exact ⟨h,Nat.le_refl _,fun g hg=>(h.lt g hg).2⟩
theorem Own.wide {e:TypeId} {lo lo' hi hi' : Nat} {w:World} {v:Value} {xs:List Value} (h:Own e lo hi w v xs) (hl:lo'≤lo) (hh:hi≤hi') (hs:hi'≤w.heap.size):Own e lo' hi' w v xs:=by
 obtain ⟨h1,h2,h3⟩:=h
 refine ⟨⟨h1.1,?_⟩,hs,fun g hg=>Nat.lt_of_lt_of_le (h3 g hg) hh⟩
 rcases h1.2 with hn | ⟨g,cap,cur,rfl,hbg,r⟩
 ·exact .inl hn
 ·exact .inr ⟨g,cap,cur,rfl,Nat.le_trans hl hbg,r⟩
/-- At most the blocks from lo on and below hi have turned. -/
structure Outside (lo hi:Nat) (w w' : World):Prop where
 os:w'.os=w.os
 tape:w'.tape=w.tape
 output:w'.output=w.output
 size:w.heap.size≤w'.heap.size
 block:∀ k,k < w.heap.size→(k < lo∨hi≤k)→w'.heap[k]? = w.heap[k]?
theorem Outside.of_below {w w' : World} (h:Below w.heap.size w w') (lo hi:Nat):Outside lo hi w w':=⟨h.os,h.tape,h.output,h.size,fun k hk _=>h.block k hk⟩
theorem Outside.below {B lo hi:Nat} {a w w' : World} (h:Outside lo hi w w') (hb:Below B a w) (hB:B≤lo) (hs:B≤w.heap.size):Below B a w' :=
 hb.trans ⟨h.os,h.tape,h.output,h.size,fun k hk=>h.block k (Nat.lt_of_lt_of_le hk hs) (.inl (Nat.lt_of_lt_of_le hk hB))⟩
theorem Outside.trans {lo hi:Nat} {a b c:World} (h:Outside lo hi a b) (k:Outside lo hi b c):Outside lo hi a c :=
 ⟨k.os.trans h.os,k.tape.trans h.tape,k.output.trans h.output,Nat.le_trans h.size k.size,fun i hi ho=>(k.block i (Nat.lt_of_lt_of_le hi h.size) ho).trans (h.block i hi ho)⟩
theorem Outside.grown {lo hi:Nat} {w w' : World} {row:Option Nat} (h:w.grownBy w' row) (hr:∀ g,row=some g→lo≤g∧g < hi):Outside lo hi w w' :=
 ⟨h.os,h.tape,h.output,h.size,fun k hk ho=>h.block k hk fun e=>by have:=hr k e.symm; omega⟩
theorem Own.outside {e:TypeId} {lo hi lo' hi' : Nat} {w w' : World} {v:Value} {xs:List Value} (h:Own e lo hi w v xs) (ho:Outside lo' hi' w w') (hd:hi≤lo'∨hi'≤lo):Own e lo hi w' v xs:=by
 obtain ⟨h1,h2,h3⟩:=h
 refine ⟨⟨h1.1,?_⟩,Nat.le_trans h2 ho.size,h3⟩
 rcases h1.2 with hn | ⟨g,cap,cur,rfl,hbg,hg,rest⟩
 ·exact .inl hn
 ·have hlt:=h3 g rfl
  exact .inr ⟨g,cap,cur,rfl,hbg,by rw [ho.block g (by omega) (by omega)]; exact hg,rest⟩
/-- A fact behind a name, so that it is no rewrite rule. -/
theorem hide {p:Prop} (h:p):Hid p:=h
/-- Whole numbers as results. -/
theorem ret_bool {a b:Bool} (h:a=b):Ending.returned (.bool a)=.returned (.bool b):=by rw [h]
theorem ret_int {k:IntKind} {a b:Int} (h:a=b):Ending.returned (.int k a)=.returned (.int k b):=by rw [h]
/-- A row with elements lies at the head of a block of its own. -/
theorem own_form {w:World} {lo:Nat} {e:TypeId} {size n c:Nat} {A:Option Addr} {xs:List Value} (h:w.ownsRow lo e size (.slice A n c) n xs) (hn:0 < n):∃ g,A=some ⟨g,0,none⟩∧lo≤g∧g < w.heap.size:=by
 rcases h.2 with ⟨_,h0⟩ | ⟨g,cap,cur,hv,hb,hg,_⟩
 ·omega
 ·injection hv with e1
  exact ⟨g,e1,hb,(Array.getElem?_eq_some_iff.1 hg).1⟩
/-! ### Bits -/
theorem ofInt64 {a:Nat} (ha:a < 9223372036854775808):(BitVec.ofInt 64 (a:Int)).toNat=a:=by
 rw [BitVec.ofInt_natCast,BitVec.toNat_ofNat]
 exact Nat.mod_eq_of_lt (by omega)
theorem or64 {a b:Nat} (ha:a < 9223372036854775808) (hb:b < 9223372036854775808):bits .or .i64 (a:Int) (b:Int)=((a ||| b:Nat):Int):=by
 have hx:a ||| b < 2 ^ 63:=Nat.or_lt_two_pow (by omega) (by omega)
 show IntKind.i64.wrap ((BitVec.ofInt 64 (a:Int) ||| BitVec.ofInt 64 (b:Int)).toNat:Int)=_
 rw [BitVec.toNat_or,ofInt64 ha,ofInt64 hb,IntKind.wrap_i64]
 omega
theorem and64 {a b:Nat} (ha:a < 9223372036854775808) (hb:b < 9223372036854775808):bits .and .i64 (a:Int) (b:Int)=((a &&& b:Nat):Int):=by
 have hx:a &&& b < 2 ^ 63:=Nat.and_lt_two_pow _ (by omega)
 show IntKind.i64.wrap ((BitVec.ofInt 64 (a:Int) &&& BitVec.ofInt 64 (b:Int)).toNat:Int)=_
 rw [BitVec.toNat_and,ofInt64 ha,ofInt64 hb,IntKind.wrap_i64]
 omega
theorem or128_all:∀ n:Fin 256,bits .or .u8 (n.val:Int) 128=((n.val % 128 + 128:Nat):Int):=by decide +kernel
theorem or128 {y:Int} (h0:0≤y) (h1:y≤255):bits .or .u8 y 128=y % 128 + 128:=by
 obtain ⟨n,rfl⟩:=Int.eq_ofNat_of_zero_le h0
 rw [or128_all ⟨n,by omega⟩]
 show ((n % 128 + 128:Nat):Int)=_
 omega
end Go.Proofs.YtgaadpkefncnmaaGreatDoor
namespace Go.Proofs
open Go.Shelf
def Tryz.sortS_ren:Go.Shelf.Ren:=⟨fun | 6=>171 | 8=>207 | 9=>206 | 19=>234 | 20=>235 | 21=>225 | 22=>226 | 23=>227 | 24=>228 | 25=>229 | 26=>230 | 27=>231 | 28=>232 | 29=>233 | 36=>256 | 31=>257 | 32=>258 | 37=>259 | 38=>260 | 39=>261 | 41=>271 | n=>n,fun | 27=>104 | 29=>9 | 3=>3 | 32=>196 | 26=>104 | 0=>0 | 44=>230 | 46=>254 | 4=>4 | 36=>246 | 35=>245 | 41=>158 | 5=>5 | 9=>9 | 53=>272 | 57=>276 | 63=>287 | 64=>288 | n=>n,fun | n=>n⟩
theorem Tryz.sortS:Go.Proofs.SlLaysM.n6 Tryz.prog Tryz.sortS_ren:={
 mixed:=by kernel_rfl
 f6:=⟨Tryz.f171.name,by decide,Tryz.func171.trans (congrArg some (by kernel_rfl))⟩
 f8:=Tryz.func207.trans (congrArg some (by kernel_rfl))
 f9:=⟨Tryz.f206.name,by decide,Tryz.func206.trans (congrArg some (by kernel_rfl))⟩
 f19:=Tryz.func234.trans (congrArg some (by kernel_rfl))
 f20:=Tryz.func235.trans (congrArg some (by kernel_rfl))
 f21:=⟨Tryz.f225.name,by decide,Tryz.func225.trans (congrArg some (by kernel_rfl))⟩
 f22:=⟨Tryz.f226.name,by decide,Tryz.func226.trans (congrArg some (by kernel_rfl))⟩
 f23:=⟨Tryz.f227.name,by decide,Tryz.func227.trans (congrArg some (by kernel_rfl))⟩
 f24:=⟨Tryz.f228.name,by decide,Tryz.func228.trans (congrArg some (by kernel_rfl))⟩
 f25:=⟨Tryz.f229.name,by decide,Tryz.func229.trans (congrArg some (by kernel_rfl))⟩
 f26:=⟨Tryz.f230.name,by decide,Tryz.func230.trans (congrArg some (by kernel_rfl))⟩
 f27:=⟨Tryz.f231.name,by decide,Tryz.func231.trans (congrArg some (by kernel_rfl))⟩
 f28:=⟨Tryz.f232.name,by decide,Tryz.func232.trans (congrArg some (by kernel_rfl))⟩
 f29:=⟨Tryz.f233.name,by decide,Tryz.func233.trans (congrArg some (by kernel_rfl))⟩
 f31:=Tryz.func257.trans (congrArg some (by kernel_rfl))
 f32:=Tryz.func258.trans (congrArg some (by kernel_rfl))
 f36:=⟨Tryz.f256.name,by decide,Tryz.func256.trans (congrArg some (by kernel_rfl))⟩
 f37:=⟨Tryz.f259.name,by decide,Tryz.func259.trans (congrArg some (by kernel_rfl))⟩
 f38:=⟨Tryz.f260.name,by decide,Tryz.func260.trans (congrArg some (by kernel_rfl))⟩
 f39:=⟨Tryz.f261.name,by decide,Tryz.func261.trans (congrArg some (by kernel_rfl))⟩
 f41:=⟨Tryz.f271.name,by decide,Tryz.func271.trans (congrArg some (by kernel_rfl))⟩
 t0:=Tryz.underlying0
 a0:=Tryz.isAgg0
 z0:=Tryz.sizeOf0
 v0:=Tryz.zeroValue0
 t3:=Tryz.underlying3
 a3:=Tryz.isAgg3
 z3:=Tryz.sizeOf3
 v3:=Tryz.zeroValue3
 t4:=Tryz.underlying4
 a4:=Tryz.isAgg4
 z4:=Tryz.sizeOf4
 v4:=Tryz.zeroValue4
 t5:=Tryz.underlying5
 a5:=Tryz.isAgg5
 z5:=Tryz.sizeOf5
 v5:=Tryz.zeroValue5
 t9:=Tryz.underlying9
 a9:=Tryz.isAgg9
 z9:=Tryz.sizeOf9
 v9:=Tryz.zeroValue9
 t26:=Tryz.underlying104
 a26:=Tryz.isAgg104
 z26:=Tryz.sizeOf104
 v26:=Tryz.zeroValue104
 t27:=Tryz.underlying104
 a27:=Tryz.isAgg104
 z27:=Tryz.sizeOf104
 v27:=Tryz.zeroValue104
 t29:=Tryz.underlying9
 a29:=Tryz.isAgg9
 z29:=Tryz.sizeOf9
 v29:=Tryz.zeroValue9
 t32:=Tryz.underlying196
 a32:=Tryz.isAgg196
 z32:=Tryz.sizeOf196
 v32:=Tryz.zeroValue196
 t35:=Tryz.underlying245
 a35:=Tryz.isAgg245
 z35:=Tryz.sizeOf245
 v35:=Tryz.zeroValue245
 t36:=Tryz.underlying246
 a36:=Tryz.isAgg246
 z36:=Tryz.sizeOf246
 v36:=Tryz.zeroValue246
 t41:=Tryz.underlying158
 a41:=Tryz.isAgg158
 z41:=Tryz.sizeOf158
 v41:=Tryz.zeroValue158
 t44:=Tryz.underlying230
 a44:=Tryz.isAgg230
 z44:=Tryz.sizeOf230
 v44:=Tryz.zeroValue230
 t46:=Tryz.underlying254
 a46:=Tryz.isAgg254
 z46:=Tryz.sizeOf254
 v46:=Tryz.zeroValue254
 t53:=Tryz.underlying272
 a53:=Tryz.isAgg272
 z53:=Tryz.sizeOf272
 v53:=Tryz.zeroValue272
 t57:=Tryz.underlying276
 a57:=Tryz.isAgg276
 z57:=Tryz.sizeOf276
 v57:=Tryz.zeroValue276
 t63:=Tryz.underlying287
 a63:=Tryz.isAgg287
 z63:=Tryz.sizeOf287
 v63:=Tryz.zeroValue287
 t64:=Tryz.underlying288
 a64:=Tryz.isAgg288
 z64:=Tryz.sizeOf288
 v64:=Tryz.zeroValue288 }
end Go.Proofs
namespace Go.Proofs
open Go.Shelf
def Tryz.keysO_ren:Go.Shelf.Ren:=⟨fun | 7=>125 | 10=>172 | n=>n,fun | 23=>83 | 26=>9 | 3=>49 | 28=>153 | 0=>0 | 27=>152 | 33=>195 | 4=>4 | n=>n,fun | n=>n⟩
theorem Tryz.keysO:Go.Proofs.SlLaysZ.n7 Tryz.prog Tryz.keysO_ren:={
 mixed:=by kernel_rfl
 f7:=⟨Tryz.f125.name,by decide,Tryz.func125.trans (congrArg some (by kernel_rfl))⟩
 f10:=⟨Tryz.f172.name,by decide,Tryz.func172.trans (congrArg some (by kernel_rfl))⟩
 t0:=Tryz.underlying0
 a0:=Tryz.isAgg0
 z0:=Tryz.sizeOf0
 v0:=Tryz.zeroValue0
 t4:=Tryz.underlying4
 a4:=Tryz.isAgg4
 z4:=Tryz.sizeOf4
 v4:=Tryz.zeroValue4
 t23:=Tryz.underlying83
 a23:=Tryz.isAgg83
 z23:=Tryz.sizeOf83
 v23:=Tryz.zeroValue83
 t26:=Tryz.underlying9
 a26:=Tryz.isAgg9
 z26:=Tryz.sizeOf9
 v26:=Tryz.zeroValue9
 t27:=Tryz.underlying152
 a27:=Tryz.isAgg152
 z27:=Tryz.sizeOf152
 v27:=Tryz.zeroValue152
 t28:=Tryz.underlying153
 a28:=Tryz.isAgg153
 z28:=Tryz.sizeOf153
 v28:=Tryz.zeroValue153
 t33:=Tryz.underlying195
 a33:=Tryz.isAgg195
 z33:=Tryz.sizeOf195
 v33:=Tryz.zeroValue195 }
end Go.Proofs
namespace Go.Proofs
open Go.Shelf
def Tryz.keysB_ren:Go.Shelf.Ren:=⟨fun | 7=>134 | 10=>174 | n=>n,fun | 23=>79 | 26=>9 | 3=>4 | 28=>153 | 0=>0 | 27=>152 | 33=>195 | 4=>4 | n=>n,fun | n=>n⟩
theorem Tryz.keysB:Go.Proofs.SlLaysZ.n7 Tryz.prog Tryz.keysB_ren:={
 mixed:=by kernel_rfl
 f7:=⟨Tryz.f134.name,by decide,Tryz.func134.trans (congrArg some (by kernel_rfl))⟩
 f10:=⟨Tryz.f174.name,by decide,Tryz.func174.trans (congrArg some (by kernel_rfl))⟩
 t0:=Tryz.underlying0
 a0:=Tryz.isAgg0
 z0:=Tryz.sizeOf0
 v0:=Tryz.zeroValue0
 t4:=Tryz.underlying4
 a4:=Tryz.isAgg4
 z4:=Tryz.sizeOf4
 v4:=Tryz.zeroValue4
 t23:=Tryz.underlying79
 a23:=Tryz.isAgg79
 z23:=Tryz.sizeOf79
 v23:=Tryz.zeroValue79
 t26:=Tryz.underlying9
 a26:=Tryz.isAgg9
 z26:=Tryz.sizeOf9
 v26:=Tryz.zeroValue9
 t27:=Tryz.underlying152
 a27:=Tryz.isAgg152
 z27:=Tryz.sizeOf152
 v27:=Tryz.zeroValue152
 t28:=Tryz.underlying153
 a28:=Tryz.isAgg153
 z28:=Tryz.sizeOf153
 v28:=Tryz.zeroValue153
 t33:=Tryz.underlying195
 a33:=Tryz.isAgg195
 z33:=Tryz.sizeOf195
 v33:=Tryz.zeroValue195 }
end Go.Proofs
namespace Go.Proofs
open Go.Shelf
def Tryz.sortedS_ren:Go.Shelf.Ren:=⟨fun | 6=>124 | 8=>170 | 9=>171 | 11=>205 | 13=>207 | 12=>206 | 23=>234 | 24=>235 | 14=>225 | 15=>226 | 16=>227 | 17=>228 | 18=>229 | 19=>230 | 20=>231 | 21=>232 | 22=>233 | 25=>256 | 26=>257 | 27=>258 | 28=>259 | 29=>260 | 30=>261 | 31=>271 | n=>n,fun | 26=>9 | 28=>153 | 24=>104 | 0=>0 | 3=>3 | 37=>196 | 48=>230 | 50=>254 | 4=>4 | 40=>246 | 39=>245 | 45=>158 | 5=>5 | 9=>9 | 51=>272 | 55=>276 | 57=>287 | 58=>288 | 33=>195 | n=>n,fun | n=>n⟩
theorem Tryz.sortedS:Go.Proofs.SlLaysZ.n6 Tryz.prog Tryz.sortedS_ren:={
 mixed:=by kernel_rfl
 f6:=⟨Tryz.f124.name,by decide,Tryz.func124.trans (congrArg some (by kernel_rfl))⟩
 f8:=⟨Tryz.f170.name,by decide,Tryz.func170.trans (congrArg some (by kernel_rfl))⟩
 f11:=⟨Tryz.f205.name,by decide,Tryz.func205.trans (congrArg some (by kernel_rfl))⟩
 t0:=Tryz.underlying0
 a0:=Tryz.isAgg0
 z0:=Tryz.sizeOf0
 v0:=Tryz.zeroValue0
 t24:=Tryz.underlying104
 a24:=Tryz.isAgg104
 z24:=Tryz.sizeOf104
 v24:=Tryz.zeroValue104
 t26:=Tryz.underlying9
 a26:=Tryz.isAgg9
 z26:=Tryz.sizeOf9
 v26:=Tryz.zeroValue9
 t28:=Tryz.underlying153
 a28:=Tryz.isAgg153
 z28:=Tryz.sizeOf153
 v28:=Tryz.zeroValue153
 i26:=by kernel_rfl }
end Go.Proofs
/-
  append onto a row of the call's own, whatever slice is appended.
-/
namespace Go.Proofs.YtgaadpkefncnmaaGreatDoor
open Go.RowKit
theorem u8info:(Tryz.prog.info? 5).map (fun i=>(i.zero,i.size,i.bytes))=some (some (.int .u8 0),1,1):=by kernel_rfl
theorem run_app {P:Program} (w:World) (base:Nat) (t ty e:TypeId) (i:TypeInfo) (z:Value) (bytes:Nat) (ht:P.underlying t=some (.slice e)) (hi:P.info? e=some i) (hz:i.zero=some z)
  (hsize:i.size=1) (hby:i.bytes=bytes) (hzs:z.cells.size=1)
  (v:Value) (n:Nat) (xs:List Value) (hown:w.ownsRow base e 1 v n xs) (y:Value) (ys:List Value) (hr:Rd w y ys) (h1:∀ u∈ys,u.oneCell' = true)
  (h63:n + ys.length≤maxLen) (hbytes:(n + ys.length) * bytes≤140737488355328) (hbase:base≤w.heap.size) :
  ∃ v' w',(Builtin.append_ #[t,t] ty #[v,y]).run P w=.ok v' w'∧w'.ownsRow base e 1 v' (n + ys.length) (xs++ys)∧w.grownBy w' v.ownBlock:=by
 obtain ⟨A,c,rfl,hc,hm,hcell⟩:=hr
 cases A with
 | none =>
   have h0:ys.length=0:=by
    rcases Nat.eq_zero_or_pos ys.length with h | h
    ·exact h
    ·obtain ⟨b,off,hA,_⟩:=hcell h
     cases hA
   obtain rfl:=List.eq_nil_of_length_eq_zero h0
   refine ⟨v,w,?_,by simpa using hown,World.grownBy.refl w _⟩
   rcases hown.2 with ⟨rfl,rfl⟩ | ⟨g,cap,cur,rfl,_,_,hnc,_⟩
   ·simp [Builtin.append_,run_underlying ht,sizeOf,typeInfo,hi,Builtin.lenOf,Builtin.firstCells]
   ·simp [Builtin.append_,run_underlying ht,sizeOf,typeInfo,hi,Builtin.lenOf,Builtin.firstCells,hnc,storeCells]
 | some ad =>
   have hcells:∀ j u,ys[j]? = some u→w.cell? (ad.add j)=some u:=by
    intro j u hu
    obtain ⟨b,off,hA,_,hc⟩:=hcell (Nat.lt_of_le_of_lt (Nat.zero_le _) (List.getElem?_eq_some_iff.1 hu).1)
    injection hA with hA
    subst hA
    rw [Addr.add_lit]
    exact hc j u hu
   obtain ⟨v',w',hrun,h2,h3,_⟩:=run_append_own (P:=P) w base t ty e i z 1 bytes ht hi hz hsize hby hzs (by omega) v n xs hown ad ys.length c ys (by omega) hcells h1 h63 hbytes hbase
   exact ⟨v',w',hrun,h2,h3⟩
theorem wpList_app {P:Program} (w:World) {ops:Array Oper} {rest:List Oper} {o:Oper} {a:Act} {Q:Exit→Act→World→Prop} (hgd:o.guard=none) (s x:Operand) (t:TypeId)
  (ho:o.op=.call { callee:=.builtin .append,args:=#[s,x],argTypes:=#[t,t] })
  (base:Nat) (e:TypeId) (i:TypeInfo) (z:Value) (bytes:Nat) (ht:P.underlying t=some (.slice e)) (hi:P.info? e=some i) (hz:i.zero=some z)
  (hsize:i.size=1) (hby:i.bytes=bytes) (hzs:z.cells.size=1)
  (v:Value) (n:Nat) (xs:List Value) (hs:a.eval s=v) (hown:w.ownsRow base e 1 v n xs) (y:Value) (ys:List Value) (hx:a.eval x=y) (hr:Rd w y ys) (h1:∀ u∈ys,u.oneCell' = true)
  (h63:n + ys.length≤maxLen) (hbytes:(n + ys.length) * bytes≤140737488355328) (hbase:base≤w.heap.size)
  (h:∀ v' w',w'.ownsRow base e 1 v' (n + ys.length) (xs++ys)→w.grownBy w' v.ownBlock→wpList P ops Q rest (a.put o.dst v') w'):wpList P ops Q (o :: rest) a w:=by
 refine wpList_plain hgd fun K hK=>?_
 obtain ⟨v',w',hrun,h2,h3⟩:=run_app (P:=P) w base t o.type e i z bytes ht hi hz hsize hby hzs v n xs hown y ys hr h1 h63 hbytes hbase
 unfold Oper.wp execOp
 simp only [ho,resolve,invoke,builtin,Sem.run_bind,Sem.run_pure,Result.andThen_ok,List.map_toArray,List.map_cons,List.map_nil,hs,hx,hrun]
 exact hK _ _ (h v' w' h2 h3)
/-- A new block of one byte, as it reads. -/
theorem rd_one (w:World) (x:Int) (t:TypeId):Rd (w.alloc (.cells #[.int .u8 x] t)) (.slice (some ⟨w.heap.size,0,none⟩) 1 1) (bs [x]):=by
 refine ⟨_,1,rfl,Nat.le_refl _,by simp [maxLen],fun _=>⟨w.heap.size,0,rfl,by simp,fun i u hu=>?_⟩⟩
 obtain ⟨hi,rfl⟩:=bs_get_inv hu
 have hi0:i=0:=by simpa using hi
 subst hi0
 rw [World.cell?_alloc_at _ _ _ _ rfl]
 rfl
theorem Below.row {B:Nat} {a w w' : World} {e:TypeId} {size n:Nat} {v:Value} {xs:List Value} (h:Below B a w) (hB:B≤w.heap.size) (hown:w.ownsRow B e size v n xs) (hg:w.grownBy w' v.ownBlock):Below B a w' :=
 h.grown hg hB fun g hgk=>(hown.lt g hgk).1
/-- The empty literal is a row of its own. -/
theorem own_lit0 (w:World) (e:TypeId):(w.alloc (.cells #[] e)).ownsRow w.heap.size e 1 (.slice (some ⟨w.heap.size,0,none⟩) 0 0) 0 [] :=
 World.ownsRow_lit w #[] 0 (Nat.le_refl _) (Nat.zero_le _) rfl
theorem Rd.alloc {w:World} {v:Value} {xs:List Value} (h:Rd w v xs) (o:Obj):Rd (w.alloc o) v xs:=h.below ((Below.refl _ _).alloc (Nat.le_refl _) o)
theorem below_app0 {w w1:World} {e:TypeId} (gr:(w.alloc (.cells #[] e)).grownBy w1 (Value.slice (some ⟨w.heap.size,0,none⟩) 0 0).ownBlock):Below w.heap.size w w1 :=
 Below.row ((Below.refl _ _).alloc (Nat.le_refl _) _) (by simp) (own_lit0 w e) gr
theorem own_step {W W' : World} {lo n size:Nat} {e:TypeId} {v:Value} {xs:List Value} (h:W.ownsRow lo e size v n xs) (hb:Below W.heap.size W W'):W'.ownsRow lo e size v n xs :=
 h.kept (row:=none) ⟨hb.os,hb.tape,hb.output,hb.size,fun k hk _=>hb.block k hk⟩ (by cases hv:v.ownBlock <;> simp)
end Go.Proofs.YtgaadpkefncnmaaGreatDoor
/-
  Base32 in plain numbers: bits, groups of five, characters.
-/
namespace Go.Proofs.YtgaadpkefncnmaaGreatDoor
open Go.RowKit
/-- The characters. -/
def abcB:ByteArray:=⟨#[48,49,50,51,52,53,54,55,56,57,97,98,99,100,102,103,104,105,106,107,108,109,110,112,113,114,115,118,119,120,121,122]⟩
def abcL:List Int:=[48,49,50,51,52,53,54,55,56,57,97,98,99,100,102,103,104,105,106,107,108,109,110,112,113,114,115,118,119,120,121,122]
def ltr (n:Int):Int:=abcL.getD n.toNat 0
theorem ltr_all:∀ k:Fin 32,((abcB[k.val]'(by simp [abcB,ByteArray.size])).toNat:Int)=ltr k.val:=by decide +kernel
theorem ltr_range:∀ k:Fin 32,0≤ltr k.val∧ltr k.val≤255:=by decide +kernel
theorem ltr_at (k:Nat) (h:k < 32):(((⟨#[48,49,50,51,52,53,54,55,56,57,97,98,99,100,102,103,104,105,106,107,108,109,110,112,113,114,115,118,119,120,121,122]⟩:ByteArray)[k]'(by simpa [ByteArray.size] using h)).toNat:Int)=ltr k:=ltr_all ⟨k,h⟩
theorem ltr_byte {n:Int} (h0:0≤n) (h1:n < 32):0≤ltr n∧ltr n≤255:=by
 obtain ⟨k,rfl⟩:=Int.eq_ofNat_of_zero_le h0
 exact ltr_range ⟨k,by omega⟩
/-- The bits below the j-th stay. -/
theorem and_low {x:Int} (j:Nat) (hj:j≤32) (h0:0≤x) (h1:x < 9223372036854775808):bits .and .i64 x (2 ^ j - 1)=x % 2 ^ j:=by
 obtain ⟨a,rfl⟩:=Int.eq_ofNat_of_zero_le h0
 have hp:1≤2 ^ j:=Nat.one_le_two_pow
 have hp2:2 ^ j≤2 ^ 32:=Nat.pow_le_pow_right (by omega) hj
 have e:((2:Int) ^ j - 1)=((2 ^ j - 1:Nat):Int):=by
  rw [Int.ofNat_sub hp]; simp
 rw [e,and64 (by omega) (by omega),Nat.and_two_pow_sub_one_eq_mod]
 simp
theorem or_below {x c:Int} (j:Nat) (hx0:0≤x) (hx1:x < 2 ^ j) (hc0:0≤c) (hs:x + c * 2 ^ j < 9223372036854775808):bits .or .i64 (c * 2 ^ j) x=c * 2 ^ j + x:=by
 obtain ⟨a,rfl⟩:=Int.eq_ofNat_of_zero_le hx0
 obtain ⟨b,rfl⟩:=Int.eq_ofNat_of_zero_le hc0
 have e:((b:Int) * 2 ^ j)=((b * 2 ^ j:Nat):Int):=by simp
 rw [e] at hs ⊢
 have ha:a < 2 ^ j:=by
  have e2:((2:Int) ^ j)=((2 ^ j:Nat):Int):=by simp
  rw [e2] at hx1
  omega
 rw [or64 (by omega) (by omega),Nat.mul_comm,← Nat.two_pow_add_eq_or_of_lt ha]
 omega
/-- The k-th bit of the bytes, the highest of each first; 0 behind the last. -/
def bitI (l:List Int) (k:Nat):Int:=l.getD (k / 8) 0 / 2 ^ (7 - k % 8) % 2
theorem bitI_01 (l:List Int) (k:Nat):0≤bitI l k∧bitI l k≤1:=by unfold bitI; omega
/-- The number of the t bits from i on. -/
def part (l:List Int) (i:Nat):Nat→Int
 | 0=>0
 | t + 1=>2 * part l i t + bitI l (i + t)
theorem part_range (l:List Int) (i t:Nat) (h:t≤5):0≤part l i t∧part l i t < 2 ^ t:=by
 rcases (by omega:t=0∨t=1∨t=2∨t=3∨t=4∨t=5) with rfl | rfl | rfl | rfl | rfl | rfl <;> simp only [part] <;>
  (have h0:=bitI_01 l (i + 0); have h1:=bitI_01 l (i + 1); have h2:=bitI_01 l (i + 2); have h3:=bitI_01 l (i + 3); have h4:=bitI_01 l (i + 4); omega)
theorem p_32 {t:Nat} {p:Int} (ht:t≤5) (h:p < 2 ^ t):p < 32:=by
 rcases (by omega:t=0∨t=1∨t=2∨t=3∨t=4∨t=5) with rfl | rfl | rfl | rfl | rfl | rfl <;> omega
/-- The groups from the bit i on. -/
def grp (l:List Int) (i:Nat):List Int:=if i < 8 * l.length then part l i 5 :: grp l (i + 5) else []
termination_by 8 * l.length - i
theorem grp_more {l:List Int} {i:Nat} (h:i < 8 * l.length):grp l i=part l i 5 :: grp l (i + 5):=by rw [grp,if_pos h]
theorem grp_end {l:List Int} {i:Nat} (h:¬ i < 8 * l.length):grp l i = []:=by rw [grp,if_neg h]
/-- What Base32 writes. -/
def b32 (l:List Int):List Int:=(grp l 0).map ltr
theorem grp_len (l:List Int) (i:Nat):(grp l i).length=(8 * l.length - i + 4) / 5:=by
 by_cases h:i < 8 * l.length
 ·rw [grp_more h,List.length_cons,grp_len l (i + 5)]
  omega
 ·rw [grp_end h]
  simp
  omega
termination_by 8 * l.length - i
theorem grp_lt (l:List Int) (i:Nat):∀ x∈grp l i,0≤x∧x < 32:=by
 by_cases h:i < 8 * l.length
 ·rw [grp_more h]
  intro x hx
  rcases List.mem_cons.1 hx with rfl | hx
  ·exact part_range l i 5 (by omega)
  ·exact grp_lt l (i + 5) x hx
 ·rw [grp_end h]
  simp
termination_by 8 * l.length - i
theorem b32_len (l:List Int):(b32 l).length=(8 * l.length + 4) / 5:=by rw [b32,List.length_map,grp_len]; omega
theorem b32_byt (l:List Int):Byt (b32 l):=by
 intro y hy
 obtain ⟨x,hx,rfl⟩:=List.mem_map.1 hy
 have:=grp_lt l 0 x hx
 exact ltr_byte this.1 this.2
theorem part_split (l:List Int) (i a:Nat):∀ b,part l i (a + b)=part l i a * 2 ^ b + part l (i + a) b:=by
 intro b
 induction b with
 | zero=>simp [part]
 | succ b ih =>
   have e:part l i (a + (b + 1))=2 * part l i (a + b) + bitI l (i + (a + b)):=rfl
   have e2:part l (i + a) (b + 1)=2 * part l (i + a) b + bitI l (i + a + b):=rfl
   rw [e,e2,ih,Nat.add_assoc,Int.pow_succ,← Int.mul_assoc]
   generalize part l i a * 2 ^ b=q
   omega
theorem part_pos (l:List Int) (i t:Nat):0≤part l i t∧part l i t < 2 ^ t:=by
 induction t with
 | zero=>simp [part]
 | succ t ih =>
   have:=bitI_01 l (i + t)
   rw [part,Int.pow_succ]
   generalize (2:Int) ^ t=q at *
   omega
theorem part_top (l:List Int) (i a b:Nat):part l i (a + b) / 2 ^ b=part l i a∧part l i (a + b) % 2 ^ b=part l (i + a) b:=by
 have h:=part_pos l (i + a) b
 have hp:(0:Int) < 2 ^ b:=Int.pow_pos (by omega)
 rw [part_split]
 constructor
 ·rw [Int.add_comm,Int.add_mul_ediv_right _ _ (by omega),Int.ediv_eq_zero_of_lt h.1 h.2]
  omega
 ·rw [Int.add_comm,Int.add_mul_emod_self_right,Int.emod_eq_of_lt h.1 h.2]
theorem part_byte (l:List Int) (hB:Byt l) (k:Nat):part l (8 * k) 8=l.getD k 0:=by
 have hy:=hB.at_ k
 have q:∀ t:Nat,t < 8→(8 * k + t) / 8=k∧(8 * k + t) % 8=t:=fun t ht=>by omega
 simp only [part,bitI,(q 0 (by omega)).1,(q 0 (by omega)).2,(q 1 (by omega)).1,(q 1 (by omega)).2,(q 2 (by omega)).1,(q 2 (by omega)).2,(q 3 (by omega)).1,(q 3 (by omega)).2,
  (q 4 (by omega)).1,(q 4 (by omega)).2,(q 5 (by omega)).1,(q 5 (by omega)).2,(q 6 (by omega)).1,(q 6 (by omega)).2,(q 7 (by omega)).1,(q 7 (by omega)).2]
 generalize l.getD k 0=y at *
 omega
theorem part_over (l:List Int) (i t:Nat) (h:8 * l.length≤i):part l i t=0:=by
 induction t with
 | zero=>rfl
 | succ t ih =>
   rw [part,ih]
   unfold bitI
   rw [List.getD_eq_getElem?_getD,List.getElem?_eq_none (by omega)]
   simp
end Go.Proofs.YtgaadpkefncnmaaGreatDoor
/-
  From the rows of numbers that come in to lists of bytes.
-/
namespace Go.Proofs.YtgaadpkefncnmaaGreatDoor
open Go.ChangeShapes Go.WideShapes Go.ChangeAt Go.RowKit
theorem own:ownKnob Tryz.prog.godebug=none:=by kernel_rfl
theorem laidOut:laidOutB Tryz.prog=true:=by kernel_rfl
theorem i64_of_wf {n:Int} (h:(Lit.int .i64 n).wf=true) : -9223372036854775808≤n∧n≤9223372036854775807:=by
 have:=bounds_i64 h
 omega
theorem u8_of_wf {n:Int} (h:(Lit.int .u8 n).wf=true):0≤n∧n≤255:=by
 have:=bounds_u8 h
 omega
end Go.Proofs.YtgaadpkefncnmaaGreatDoor
/-
  Small words for rows of the call's own.
-/
namespace Go.Proofs.YtgaadpkefncnmaaGreatDoor
open Go.RowKit
theorem own_len {w:World} {base:Nat} {e:TypeId} {v:Value} {n m:Nat} {xs:List Value} (h:w.ownsRow base e 1 v n xs) (hm:n=m):w.ownsRow base e 1 v m xs:=hm ▸ h
theorem own_cells {w:World} {base:Nat} {e:TypeId} {v:Value} {n:Nat} {xs ys:List Value} (h:w.ownsRow base e 1 v n xs) (hm:xs=ys):w.ownsRow base e 1 v n ys:=hm ▸ h
theorem own_slice {w:World} {lo:Nat} {e:TypeId} {n:Nat} {v:Value} {xs:List Value} (h:w.ownsRow lo e 1 v n xs):∃ A c,v=.slice A n c∧n≤c∧c≤maxLen:=by
 rcases h.2 with ⟨rfl,h0⟩ | ⟨g,cap,cur,hv,hb,hg,hnc,hcm,_⟩
 ·exact ⟨none,0,by rw [h0],by omega,Nat.zero_le _⟩
 ·exact ⟨_,cap,hv,hnc,hcm⟩
def lenV:Value→Nat
 | .slice _ n _=>n
 | _=>0
/-- A part of a slice that reads as l. -/
theorem Rd.part {w:World} {b off c k n:Nat} {l:List Int} (h:∀ i u,(bs l)[i]? = some u→w.cell? ⟨b,off + i,none⟩=some u) (hb:b < w.heap.size) (hk:k + n≤l.length) (hc:l.length≤c) (hc2:c≤maxLen) {n' : Nat} (hn:n' = n) :
  Rd w (.slice (some ⟨b,off + k,none⟩) n' (c - k)) (bs ((l.drop k).take n)):=by
 subst hn
 have e:(bs ((l.drop k).take n')).length=n':=by rw [bs_length,List.length_take,List.length_drop]; omega
 refine ⟨some ⟨b,off + k,none⟩,c - k,by rw [e],by omega,by omega,fun _=>⟨b,off + k,rfl,hb,fun i u hu=>?_⟩⟩
 obtain ⟨hi,rfl⟩:=bs_get_inv hu
 have hin:i < n':=by rw [List.length_take] at hi; omega
 have h1:=h (k + i) _ (bs_get (by omega))
 rw [Nat.add_assoc,h1]
 simp [List.getD,hin]
theorem Rd.empty {w:World} {A:Option Addr} {n c:Nat} (hn:n=0) (hc2:c≤maxLen):Rd w (.slice A n c) (bs []):=by
 subst hn
 exact ⟨A,c,rfl,Nat.zero_le _,hc2,fun h=>by simp [bs] at h⟩
theorem rd_four (w:World) (x y z u:Int) (t:TypeId):Rd (w.alloc (.cells #[.int .u8 x,.int .u8 y,.int .u8 z,.int .u8 u] t)) (.slice (some ⟨w.heap.size,0,none⟩) 4 4) (bs [x,y,z,u]):=by
 refine ⟨_,4,rfl,Nat.le_refl _,by simp [maxLen],fun _=>⟨w.heap.size,0,rfl,by simp,fun i v hv=>?_⟩⟩
 obtain ⟨hi,rfl⟩:=bs_get_inv hv
 have h4:i < 4:=by simpa using hi
 rw [World.cell?_alloc_at _ _ _ _ rfl]
 rcases (by omega:i=0∨i=1∨i=2∨i=3) with rfl | rfl | rfl | rfl <;> rfl
/-- Guards: the next operation writes slot n; the next operation writes no slot. -/
theorem at_slot (n:Nat) {P:Program} {ops:Array Oper} {rest:List Oper} {op:Op} {ty:TypeId} {pos:String} {after:Array Edge} {guard:Option (Tmp × Bool)} {a:Act} {w:World} {Q:Exit→Act→World→Prop}
  (h:wpList P ops Q (⟨some n,op,ty,pos,after,guard⟩ :: rest) a w):wpList P ops Q (⟨some n,op,ty,pos,after,guard⟩ :: rest) a w:=h
theorem at_none {P:Program} {ops:Array Oper} {rest:List Oper} {op:Op} {ty:TypeId} {pos:String} {after:Array Edge} {guard:Option (Tmp × Bool)} {a:Act} {w:World} {Q:Exit→Act→World→Prop}
  (h:wpList P ops Q (⟨none,op,ty,pos,after,guard⟩ :: rest) a w):wpList P ops Q (⟨none,op,ty,pos,after,guard⟩ :: rest) a w:=h
end Go.Proofs.YtgaadpkefncnmaaGreatDoor
/-
  Arrays of words in blocks of their own.
-/
namespace Go.Proofs.YtgaadpkefncnmaaGreatDoor
open Go.RowKit
def wd (ws:List Int):Array Value:=(ws.map (Value.int .u32)).toArray
theorem wd_size (ws:List Int):(wd ws).size=ws.length:=by simp [wd]
theorem wd_one (ws:List Int):(wd ws).all (·.oneCell')=true:=by
 rw [Array.all_eq_true_iff_forall_mem]
 intro v hv
 simp only [wd,List.mem_toArray] at hv
 obtain ⟨_,_,rfl⟩:=List.mem_map.1 hv
 rfl
/-- Block g is just these cells, none of them frozen. -/
def At (w:World) (g:Nat) (t:TypeId) (cs:Array Value):Prop:=w.heap[g]? = some (.cells cs t (0,0))
section
variable {w w' : World} {g:Nat} {t:TypeId} {cs:Array Value} {ws:List Int}
theorem At.lt (h:At w g t cs):g < w.heap.size:=(Array.getElem?_eq_some_iff.1 h).1
theorem At.cell (h:At w g t (wd ws)) {i:Nat} (hi:i < ws.length):w.cell? ⟨g,i,none⟩=some (.int .u32 (ws.getD i 0)):=by
 rw [cell_of_row w g i _ t (0,0) h]
 simp [wd,List.getD,hi]
theorem At.frozen (h:At w g t cs) (i:Nat):w.frozen? ⟨g,i,none⟩=false:=frozen_of_row w g i cs t h
theorem At.set_ (h:At w g t (wd ws)) (i:Nat) (x:Int):At (w.setCell ⟨g,i,none⟩ (.int .u32 x)) g t (wd (ws.set i x)):=by
 have e:wd (ws.set i x)=(wd ws).setIfInBounds i (.int .u32 x):=by
  apply Array.ext'
  simp [wd,List.map_set]
 rw [e]
 exact heap_setCell_same w g i _ t _ h
theorem At.below {B:Nat} (h:At w g t cs) (hb:Below B w w') (hg:g < B):At w' g t cs:=(hb.block g hg).trans h
theorem At.step (h:At w g t cs) (hb:Below w.heap.size w w'):At w' g t cs:=h.below hb h.lt
theorem At.far (h:At w g t cs) {p:Addr} (hp:g≠p.block) (u:Value):At (w.setCell p u) g t cs:=(Below.heap_setCell w p u g hp).trans h
theorem At.drewN (h:At w g t cs) (n:Nat):At (w.drewN n) g t cs:=h
theorem At.alloc (h:At w g t cs) (o:Obj):At (w.alloc o) g t cs:=(Below.heap_alloc w o g h.lt).trans h
theorem At.setRow (h:At w g t cs) (cs' : Array Value):At (w.setRow g cs') g t cs':=setRow_heap w g cs cs' t _ h
end
theorem below_setRow {B:Nat} {a w:World} (h:Below B a w) {g:Nat} (hg:B≤g) (cs:Array Value):Below B a (w.setRow g cs) :=
 h.trans ⟨rfl,rfl,rfl,by simp,fun k hk=>setRow_other w g k cs (by omega)⟩
theorem setRow_size (w:World) (g:Nat) (cs:Array Value):(w.setRow g cs).heap.size=w.heap.size:=by simp
theorem run_alloc_zero {P:Program} (w:World) (ty:TypeId) (i:TypeInfo) (z:Value) (hi:P.info? ty=some i) (hz:i.zero=some z):(Instr.alloc ty true (.tuple #[])).run P w=.ok (.pointer (some ⟨w.heap.size,0,none⟩)) (w.alloc (.cells z.cells ty)):=by
 simp [Instr.alloc,typeInfo,hi,zeroValue,hz,newVar,newRow,go_sem]
section
variable {P:Program} {ops:Array Oper} {rest:List Oper} {o:Oper} {a:Act} {w:World} {Q:Exit→Act→World→Prop}
/-- A literal, under a name. -/
theorem wpList_build_as (cells:Array Value) (hg:o.guard=none) (t:TypeId) (parts:Array (Nat × Operand)) (ho:o.op=.build t parts)
  (hf:P.built t (parts.map fun (i,x)=>(i,a.eval x)).toList=some cells)
  (h:wpList P ops Q rest (a.put o.dst (.agg cells)) w):wpList P ops Q (o :: rest) a w :=
 wpList_build hg t parts ho (by rw [hf]; rfl) (by rw [hf]; exact h)
/-- A new variable of an array type, zeros in it. -/
theorem wpList_alloc_zero (hg:o.guard=none) (ty:TypeId) (ho:o.op=.alloc ty) (zs:Array Value) (hz:((P.info? ty).bind fun i=>i.zero.map fun z=>z.cells)=some zs)
  (h:∀ w',At w' w.heap.size ty zs→Below w.heap.size w w'→w'.heap.size=w.heap.size + 1→wpList P ops Q rest (a.put o.dst (.pointer (some ⟨w.heap.size,0,none⟩))) w'):wpList P ops Q (o :: rest) a w:=by
 refine wpList_plain hg fun K hK=>?_
 cases hi:P.info? ty with
 | none=>simp [hi] at hz
 | some i =>
   cases hzz:i.zero with
   | none=>simp [hi,hzz] at hz
   | some z =>
     simp only [hi,hzz,Option.bind_some,Option.map_some,Option.some.injEq] at hz
     subst hz
     have hrun:=run_alloc_zero (P:=P) w ty i z hi hzz
     unfold Oper.wp
     simp only [execOp,ho,Sem.run_bind,hrun,Result.andThen_ok]
     exact hK _ _ (h _ (heap_alloc_new w _) ((Below.refl _ _).alloc (Nat.le_refl _) _) (by simp))
/-- A whole array stored. -/
theorem wpList_store_all (hgd:o.guard=none) (ty:TypeId) (x y:Operand) (ho:o.op=.store ty x y)
  (g:Nat) (cells:Array Value) (hx:a.eval x=.pointer (some ⟨g,0,none⟩)) (hy:a.eval y=.agg cells)
  (t:TypeId) (old:Array Value) (hg:At w g t old) (hi:(P.info? ty).map (·.size)=some cells.size)
  (hold:old.size=cells.size) (h1:cells.all (·.oneCell')=true)
  (h:∀ w',At w' g t cells→(∀ B,B≤g→Below B w w')→w'.heap.size=w.heap.size→(∀ k,k≠g→w'.heap[k]? = w.heap[k]?)→wpList P ops Q rest (a.put o.dst undef) w'):wpList P ops Q (o :: rest) a w :=
 wpList_store_row hgd ty x y ho g cells hx hy t old hg hi hold h1 (h _ (hg.setRow cells) (fun B hB=>below_setRow (Below.refl B w) hB cells) (setRow_size _ _ _) (fun k hk=>setRow_other w g k cells hk))
end
end Go.Proofs.YtgaadpkefncnmaaGreatDoor
/-
  The four helpers of the laws over slices of bytes: a copy, a comparison, a marking, a look at the marks.
-/
namespace Go.Proofs.YtgaadpkefncnmaaGreatDoor
open Go.RowKit
theorem set_take_replicate (l:List Int) (k:Nat) (h:k < l.length) :
  (bs (l.take k)++List.replicate (l.length - k) (Value.int .u8 0)).set k (.int .u8 (l.getD k 0))=bs (l.take (k + 1))++List.replicate (l.length - (k + 1)) (Value.int .u8 0):=by
 have e:l.length - k=(l.length - (k + 1)) + 1:=by omega
 rw [e,List.replicate_succ,List.set_append]
 have hk:(bs (l.take k)).length=k:=by rw [bs_length,List.length_take]; omega
 rw [hk,if_neg (by omega),Nat.sub_self,List.set_cons_zero,List.take_succ_eq_append_getElem h,bs_append,List.append_assoc]
 simp [bs,List.getD,List.getElem?_eq_getElem h]
set_option maxHeartbeats 400000 in
theorem toBytes (l:List Int) (v:Value) (w:World) (hv:Rd w v (bs l)) (hl:l.length≤1099511627776) :
  Calls Tryz.prog 25 #[v] w fun e w'=>∃ v',e=.returned v'∧Own 5 w.heap.size w'.heap.size w' v' (bs l)∧Below w.heap.size w w':=by
 obtain ⟨i0,hi0,hz0,hz1,hz2⟩:=info_parts u8info
 obtain ⟨A,c,rfl,hc1,hc2,hrd⟩:=hv
 rw [bs_length] at *
 unfold maxLen at hc2
 go_enter Tryz.func25,Tryz.ntmps25
 go_wp2_with (at_make; refine wpList_make_full _ rfl _ _ 39 rfl w.heap.size 5 i0 _ 1 Tryz.underlying39 hi0 hz0 hz1 .i64 .i64 _ _ l.length rfl rfl rfl rfl (by rw [hz2]; omega) (by simp only [maxLen]; omega) (Nat.le_refl _) ?_; intro w1 own1 gr1)
 have own2:w1.ownsRow w.heap.size 5 1 (.slice (some ⟨w.heap.size,0,none⟩) l.length l.length) l.length (bs (l.take 0)++List.replicate (l.length - 0) (Value.int .u8 0)):=by
  have e:(madeCells (Value.int .u8 0).cells (l.length * 1)).toList=bs (l.take 0)++List.replicate (l.length - 0) (Value.int .u8 0):=by
   rw [Nat.mul_one]; exact toList_madeCells_one _ _
  rw [← e]
  exact own1
 have hb1:Below w.heap.size w w1:=(Below.refl _ _).grown gr1 (Nat.le_refl _) (fun _ h=>by cases h)
 clear own1 gr1 hi0 hz0 hz1 hz2
 go_loopw [4] (fun i wr=>∃ k:Nat,k≤l.length∧i=.int .i64 k∧wr.ownsRow w.heap.size 5 1 (.slice (some ⟨w.heap.size,0,none⟩) l.length l.length) l.length (bs (l.take k)++List.replicate (l.length - k) (Value.int .u8 0))∧Below w.heap.size w wr)
  (fun i _=>l.length - (intOf i).toNat)
 case atStart=>exact ⟨0,Nat.zero_le _,rfl,own2,hb1⟩
 case round =>
  obtain ⟨k,hk,rfl,hown,hbel⟩:=hrel
  by_cases hlt:k < l.length
  ·obtain ⟨b,off,rfl,hblt,hcell⟩:=hrd (by omega)
   have hin:wr.cell? ⟨b,off + k,none⟩=some (.int .u8 (l.getD k 0)):=(hbel.cell (p:=⟨b,off + k,none⟩) hblt).trans (hcell k _ (bs_get hlt))
   have hout:=hown.cellAt k (by omega)
   have hfz:=hown.frozenAt k
   obtain ⟨hst,hgr⟩:=hown.stored k (.int .u8 (l.getD k 0))
   rw [set_take_replicate l k hlt] at hst
   have hbel2:Below w.heap.size w (wr.setCell ⟨w.heap.size,k,none⟩ (.int .u8 (l.getD k 0))):=hbel.setCell (Nat.le_refl _) _
   have hget:(bs (l.take k)++List.replicate (l.length - k) (Value.int .u8 0))[k]? = some (.int .u8 0):=by
    rw [List.getElem?_append_right (by rw [bs_length,List.length_take]; omega),bs_length,List.length_take,List.getElem?_replicate,if_pos (by omega)]
   rw [hget] at hout
   generalize hx:l.getD k 0=x at *
   have HX:=hide hx
   clear hx
   have HS:=hide hst
   have HB:=hide hbel2
   clear hst hbel2 hgr hget hown hcell hrd
   go_wp2
   go_roundw
   case rel=>exact ⟨k + 1,by omega,by go_num,HS.out,HB.out⟩
   case measure=>simp [intOf]; omega
  ·obtain rfl:k=l.length:=by omega
   go_wp2
   go_ret
   rw [Nat.sub_self,List.take_length,List.replicate_zero,List.append_nil] at hown
   exact ⟨_,rfl,Own.of hown (bs_length l).symm,hbel⟩
set_option maxHeartbeats 400000 in
/-- Two slices that read as the same bytes are equal. -/
theorem eqBytes (l:List Int) (v1 v2:Value) (w:World) (h1:Rd w v1 (bs l)) (h2:Rd w v2 (bs l)) :
  Calls Tryz.prog 27 #[v1,v2] w fun e w'=>e=.returned (.bool true)∧Below w.heap.size w w':=by
 obtain ⟨A,c,rfl,hc1,hc2,hrd⟩:=h1
 obtain ⟨A',c',rfl,hc1',hc2',hrd'⟩:=h2
 rw [bs_length] at *
 unfold maxLen at hc2 hc2'
 have hlen:((l.length:Int) != (l.length:Int))=false:=by simp
 go_enter Tryz.func27,Tryz.ntmps27
 go_wp2
 go_loopw [5] (fun i wr=>∃ k:Nat,k≤l.length∧i=.int .i64 k∧Below w.heap.size w wr)
  (fun i _=>l.length - (intOf i).toNat)
 case atStart=>exact ⟨0,Nat.zero_le _,rfl,Below.refl _ _⟩
 case round =>
  obtain ⟨k,hk,rfl,hbel⟩:=hrel
  by_cases hlt:k < l.length
  ·obtain ⟨b,off,rfl,hblt,hcell⟩:=hrd (by omega)
   obtain ⟨b',off',rfl,hblt',hcell'⟩:=hrd' (by omega)
   have hin:wr.cell? ⟨b,off + k,none⟩=some (.int .u8 (l.getD k 0)):=(hbel.cell (p:=⟨b,off + k,none⟩) hblt).trans (hcell k _ (bs_get hlt))
   have hin' : wr.cell? ⟨b',off' + k,none⟩=some (.int .u8 (l.getD k 0)):=(hbel.cell (p:=⟨b',off' + k,none⟩) hblt').trans (hcell' k _ (bs_get hlt))
   generalize hx:l.getD k 0=x at *
   have HX:=hide hx
   have HB:=hide hbel
   clear hx hbel hcell hcell' hrd hrd'
   have hne:((x:Int) != x)=false:=by simp
   go_wp2
   go_quiet (fail)
   go_wp2
   go_roundw
   case rel=>exact ⟨k + 1,by omega,by go_num,below_drewN HB.out _⟩
   case measure=>simp [intOf]; omega
  ·obtain rfl:k=l.length:=by omega
   go_wp2
   go_ret
   exact ⟨rfl,hbel⟩
end Go.Proofs.YtgaadpkefncnmaaGreatDoor
/-
  bytes.Clone.
-/
namespace Go.Proofs.YtgaadpkefncnmaaGreatDoor
open Go.RowKit
set_option maxHeartbeats 400000 in
theorem clone (l:List Int) (v:Value) (w:World) (hv:Rd w v (bs l)) (hl:l.length≤1099511627776) :
  Calls Tryz.prog 129 #[v] w fun e w'=>∃ v',e=.returned v'∧w'.ownsRow w.heap.size 5 1 v' l.length (bs l)∧Below w.heap.size w w':=by
 obtain ⟨i0,hi0,hz0,hz1,hz2⟩:=info_parts u8info
 obtain ⟨A,c,hV,_,_,hrd⟩:=id hv
 rw [bs_length] at *
 subst hV
 have HV:=hide hv
 clear hv
 cases A with
 | none =>
   have h0:l = []:=by
    rcases Nat.eq_zero_or_pos l.length with h | h
    ·exact List.eq_nil_of_length_eq_zero h
    ·obtain ⟨b,off,hA,_⟩:=hrd h
     cases hA
   subst h0
   have hq:=fun (W:World)=>Lib.run_eql_slice_nil (P:=Tryz.prog) W 39 5 none 0 c 0 0 Tryz.underlying39
   go_enter Tryz.func129,Tryz.ntmps129
   go_wp2
   all_goals go_ret
   all_goals exact ⟨_,rfl,World.ownsRow_nil _ _ _ _,Below.refl _ _⟩
 | some ad =>
   clear hrd
   have hq:=fun (W:World)=>Lib.run_eql_slice_nil (P:=Tryz.prog) W 39 5 (some ad) l.length c 0 0 Tryz.underlying39
   go_enter Tryz.func129,Tryz.ntmps129
   go_wp2_with (at_builtin; refine wpList_app _ rfl (.tmp 5) (.tmp 6) _ rfl w.heap.size 5 i0 _ 1 Tryz.underlying39 hi0 hz0 hz1 hz2 rfl _ 0 [] rfl (own_lit0 w _) _ (bs l) rfl (HV.out.alloc _) (bs_one l) (by rw [bs_length]; simp only [maxLen]; omega) (by rw [bs_length]; omega) (by simp) ?_; intro v1 w1 own1 gr1)
   go_ret
   exact ⟨_,rfl,own_len (own_cells own1 (List.nil_append _)) (by rw [bs_length]; omega),below_app0 gr1⟩
end Go.Proofs.YtgaadpkefncnmaaGreatDoor
/-
  A range over a function, in two parts: the statement; one round. What the iterator may ask of the rounds is left to whoever joins the two.
-/
namespace Go.Proofs.YtgaadpkefncnmaaGreatDoor
open Go.RowKit
set_option linter.unusedVariables false
/-- The loop's two blocks, its record in the state st, with the jump pe pending. -/
structure RecAt (W:World) (D:Nat) (r:Loop) (st:LoopState) (pe:Option Code):Prop where
 rcd:W.heap[D + 1]? = some (.loop { r with state:=st,pending:=pe })
 defs:W.heap[D]? = some (.deferred (some []))
theorem RecAt.keep {W W' : World} {D:Nat} {r:Loop} {st:LoopState} {pe:Option Code} (h:RecAt W D r st pe) (hk:KeepsFrom D W W'):RecAt W' D r st pe :=
 ⟨hk.same _ _ (Nat.le_succ _) h.rcd rfl,hk.same _ _ (Nat.le_refl _) h.defs rfl⟩
theorem RecAt.lt {W:World} {D:Nat} {r:Loop} {st:LoopState} {pe:Option Code} (h:RecAt W D r st pe):D + 1 < W.heap.size:=(Array.getElem?_eq_some_iff.1 h.rcd).1
theorem RecAt.put {W:World} {D:Nat} {r:Loop} {st:LoopState} {pe:Option Code} (h:RecAt W D r st pe) (st' : LoopState) (pe' : Option Code):RecAt (W.putObj (D + 1) (.loop { r with state:=st',pending:=pe' })) D r st' pe' :=
 ⟨World.putObj_heap_same h.lt,(World.putObj_heap_other (by omega)).trans h.defs⟩
/-- Blocks of cells lie as they lay. -/
theorem KeepsFrom.below {B:Nat} {W W' : World} (h:Below W.heap.size W W'):KeepsFrom B W W':=⟨h.size,fun k o _ hk _=>(h.block k (Array.getElem?_eq_some_iff.1 hk).1).trans hk⟩
variable {F:Fence} {n m:Nat} {P:Program}
/-- One round: its assignments, its body. -/
theorem oneRound {W:World} {D:Nat} {r:Loop} {args:Array Value} {M:Act→World→Prop} {T:World→Prop} {X:Code→World→Prop} (hfn:F.fn r.fn) (hr:RecAt W D r .ready none) (hs:args.size=r.params.size)
  (ha:r.assign.wpIn (F.inRound (D + 1)) m P (Exit.then (fun a' Wa=>KeepsFrom D W Wa∧M a' Wa) (fun _ _ _=>False)) { tmps:=(r.params.zip args).foldl (fun t (p,v)=>t.setIfInBounds p v) r.tmps,defers:=[] } W)
  (hb:∀ a' Wa,M a' Wa→RecAt Wa D r .ready none→∀ Wb,Wb=Wa.putObj (D + 1) (.loop { r with state:=.busy,pending:=none }) →
   r.body.wpIn (F.inRound (D + 1)) m P (fun e _ W'=>KeepsFrom D Wb W'∧(match e with
    | .normal=>T (W'.putObj (D + 1) (.loop { r with state:=.ready,pending:=none }))
    | .ret=>X .ret (W'.putObj (D + 1) (.loop { r with state:=.done,pending:=some .ret }))
    | .exit id=>X (.exit id) (W'.putObj (D + 1) (.loop { r with state:=.done,pending:=some (.exit id) }))
    | .goto t=>X (.goto t) (W'.putObj (D + 1) (.loop { r with state:=.done,pending:=some (.goto t) }))
    | _=>False)) a' Wb) :
  YieldAt F m P (D + 1) args W fun e W'=>(e=.returned (.bool true)∧T W'∧RecAt W' D r .ready none)∨(e=.returned (.bool false)∧∃ c,X c W'∧RecAt W' D r .done (some c)):=by
 have hy:=run_yield (P:=P) (args:=args) hr.rcd hs
 refine ⟨r.fn,_,r.assign,r.body,hy,roundIn_of_wpIn hfn (wpIn_mono ha ?_)⟩
 intro e a' Wa h
 cases e with
 | normal =>
   obtain ⟨hk,hm⟩:=h
   have hra:=hr.keep hk
   refine ⟨_,run_beginRound hra.rcd rfl,wpIn_mono (hb a' Wa hm hra _ rfl) ?_⟩
   intro e2 a2 W2 h2
   have hrb:=(hra.put .busy none).keep h2.1
   have leave:∀ (j:Option Code),(Instr.endRound (D + 1) j).run P W2=.ok (.bool j.isNone) (W2.putObj (D + 1) (.loop { r with state:=if j.isNone then .ready else .done,pending:=j })):=fun j=>by
    have h:=run_endRound (P:=P) j hrb.rcd
    exact h
   cases e2 with
   | normal=>exact ⟨_,_,leave none,.inl ⟨rfl,h2.2,hrb.put .ready none⟩⟩
   | ret=>exact ⟨_,_,leave (some .ret),.inr ⟨rfl,_,h2.2,hrb.put .done _⟩⟩
   | exit id=>exact ⟨_,_,leave (some (.exit id)),.inr ⟨rfl,_,h2.2,hrb.put .done _⟩⟩
   | goto t=>exact ⟨_,_,leave (some (.goto t)),.inr ⟨rfl,_,h2.2,hrb.put .done _⟩⟩
   | panic c=>exact h2.2.elim
   | outgrown=>exact h2.2.elim
 | ret=>exact h.elim
 | exit id=>exact h.elim
 | goto t=>exact h.elim
 | panic c=>exact h.elim
 | outgrown=>exact h.elim
/-- The statement, over whatever the iterator is known to do with its rounds. -/
theorem rangeF {g:Operand} {ps:Array Tmp} {assign body:Code} {Q:Exit→Act→World→Prop} {a:Act} {w:World} {T:World→Prop} {X:Code→World→Prop}
  (hro:F.round=none) (h1:1≤n) {gf:Nat} {lb:Array Value} (hg:a.eval g=.func (.func gf) #[] lb) (hFg:F.fn gf) (eg:∀ args w,(callFunc gf args).run P w=.ok (.enter gf args) w)
  (hit:∀ (r:Loop) (W1:World),F.fn r.fn→r.tmps=a.tmps→r.params=ps→r.assign=assign→r.body=body→RecAt W1 w.heap.size r .ready none→Below w.heap.size w W1→W1.heap.size=w.heap.size + 2 →
   CallsIn F (n - 1) P gf (#[.func (.yield (w.heap.size + 1)) #[] #[]]++lb) W1 fun e W2=>(∃ v,e=.returned v)∧((T W2∧RecAt W2 w.heap.size r .ready none)∨∃ c,X c W2∧RecAt W2 w.heap.size r .done (some c)))
  (hdone:∀ (W2:World) (r:Loop) (st:LoopState) (pe:Option Code),T W2→RecAt W2 w.heap.size r st pe→∀ W3,W3=W2.putObj (w.heap.size + 1) (.loop { r with state:=.exhausted,pending:=pe })→W3.heap[w.heap.size]? = some (.deferred (some []))→Q .normal { a with defers:={ target:=.collected w.heap.size,args:=#[] } :: a.defers } W3)
  (hstop:∀ (W2:World) (r:Loop) (st:LoopState) (pe:Option Code) (c:Code),X c W2→RecAt W2 w.heap.size r st pe→∀ W3,W3=W2.putObj (w.heap.size + 1) (.loop { r with state:=.exhausted,pending:=pe })→W3.heap[w.heap.size]? = some (.deferred (some []))→c.wpIn F n P Q { a with defers:={ target:=.collected w.heap.size,args:=#[] } :: a.defers } W3) :
  (Code.rangeFunc g ps assign body).wpIn F n P Q a w:=by
 refine wpIn_rangeFunc ?_
 intro fn hfn
 rw [hro]
 have hrec:RecAt ((w.alloc (.deferred (some []))).alloc (.loop ⟨.ready,none,fn,a.tmps,ps,assign,body,w.heap.size⟩)) w.heap.size ⟨.ready,none,fn,a.tmps,ps,assign,body,w.heap.size⟩ .ready none:=by
  refine ⟨?_,?_⟩
  ·have h:=World.alloc_heap_new (w.alloc (.deferred (some []))) (.loop ⟨.ready,none,fn,a.tmps,ps,assign,body,w.heap.size⟩)
   rwa [World.size_alloc] at h
  ·have h1:=World.alloc_heap_new w (.deferred (some []))
   have h2:=Below.heap_alloc (w.alloc (.deferred (some []))) (.loop ⟨.ready,none,fn,a.tmps,ps,assign,body,w.heap.size⟩) w.heap.size (by rw [World.size_alloc]; omega)
   exact h2.trans h1
 obtain ⟨W1,hW1⟩:∃ W1,(w.alloc (.deferred (some []))).alloc (.loop ⟨.ready,none,fn,a.tmps,ps,assign,body,w.heap.size⟩)=W1:=⟨_,rfl⟩
 have hb1:Below w.heap.size w W1:=by rw [← hW1]; exact ((Below.refl _ w).alloc (Nat.le_refl _) _).alloc (by simp) _
 have hz1:W1.heap.size=w.heap.size + 2:=by rw [← hW1]; simp
 have hen:=run_enterLoop_outer (P:=P) (w:=w) fn a.tmps ps assign body
 rw [hW1] at hrec hen
 clear hW1
 obtain ⟨r,hr0⟩:∃ r:Loop,r=⟨.ready,none,fn,a.tmps,ps,assign,body,w.heap.size⟩:=⟨_,rfl⟩
 rw [← hr0] at hrec
 have hcall:=hit r W1 (by rw [hr0]; exact hfn) (by rw [hr0]) (by rw [hr0]) (by rw [hr0]) (by rw [hr0]) hrec hb1 hz1
 clear hr0 hit hrec
 refine ⟨w.heap.size + 1,[{ target:=.collected w.heap.size,args:=#[] }],W1,{ target:=.fn (.func gf) lb,args:=#[.func (.yield (w.heap.size + 1)) #[] #[]] },W1,gf,
  #[.func (.yield (w.heap.size + 1)) #[] #[]]++lb,W1,hen,?_,?_,?_,fun _=>h1,?_⟩
 ·simp only [resolve,hg]
  simp [go_sem]
 ·intro f' hf'
  simp [Target.leads] at hf'
  subst hf'
  exact hFg
 ·simp [invoke,go_sem,eg]
 ·refine hcall.mono ?_
  intro e W2 h
  obtain ⟨⟨v,he⟩,hc⟩:=h
  subst he
  rcases hc with hc | hc
  ·obtain ⟨hT,hr⟩:=hc
   have hend:=run_endLoop (P:=P) hr.rcd (by simp)
   have hq:=hdone W2 r .ready none hT hr _ rfl ((World.putObj_heap_other (by omega)).trans hr.defs)
   exact ⟨none,_,hend,hq⟩
  ·obtain ⟨c,hX,hr⟩:=hc
   have hend:=run_endLoop (P:=P) hr.rcd (by simp)
   have hq:=hstop W2 r .done (some c) c hX hr _ rfl ((World.putObj_heap_other (by omega)).trans hr.defs)
   exact ⟨some c,_,hend,hq⟩
end Go.Proofs.YtgaadpkefncnmaaGreatDoor
/-
  Base32: the model's characters.
-/
namespace Go.Proofs.YtgaadpkefncnmaaGreatDoor
open Go.RowKit
set_option maxRecDepth 20000 in
set_option maxHeartbeats 1600000 in
theorem specBase (l:List Int) (hB:Byt l) (v:Value) (w:World) (hv:Rd w v (bs l)) (hl:l.length≤1000000) :
  Calls Tryz.prog 184 #[v] w fun e w'=>∃ v',e=.returned v'∧Own 5 w.heap.size w'.heap.size w' v' (bs (b32 l))∧Below w.heap.size w w':=by
 obtain ⟨i0,hi0,hz0,hz1,hz2⟩:=info_parts u8info
 obtain ⟨A,c,hV,hc1,hc2,hrd⟩:=id hv
 rw [bs_length] at *
 unfold maxLen at hc2
 subst hV
 clear hv
 go_enter Tryz.func184,Tryz.ntmps184
 go_wp2
 go_loopw [3,4] (fun v i wr=>∃ (k:Nat) (xs:List Int),k≤8 * l.length + 4∧i=.int .i64 k∧wr.ownsRow w.heap.size 5 1 v xs.length (bs xs)∧Hid (xs++(grp l k).map ltr=b32 l)∧Below w.heap.size w wr)
  (fun _ i _=>8 * l.length + 5 - (intOf i).toNat)
 case atStart=>exact ⟨0,[],by omega,rfl,World.ownsRow_nil _ _ _ _,hide (List.nil_append _),Below.refl _ _⟩
 case round =>
  obtain ⟨k,xs,hk,rfl,hown,hx,hbel⟩:=hrel
  have hxl:xs.length≤8 * l.length + 5:=by
   have:=congrArg List.length hx.out
   rw [List.length_append,b32_len] at this
   omega
  by_cases hlt:k < 8 * l.length
  ·have HO:=hide hown
   have HB:=hide hbel
   clear hown hbel
   go_wp2
   go_loopw [5,6] (fun n q ws=>∃ t:Nat,t≤5∧q=.int .i64 (k + t)∧n=.int .i64 (part l k t)∧ws=wr)
    (fun _ q _=>k + 5 - (intOf q).toNat)
   case atStart=>exact ⟨0,by omega,by go_num,rfl,rfl⟩
   case round =>
    obtain ⟨t,ht,rfl,rfl,hws⟩:=hrel
    subst hws
    obtain ⟨p0,p1⟩:=part_range l k t ht
    generalize hp:part l k t=p at *
    have HP:=hide hp
    clear hp
    by_cases ht5:t < 5
    ·by_cases hin:k + t < 8 * l.length
     ·obtain ⟨b,off,rfl,hblt,hcell⟩:=hrd (by omega)
      have hc:=(HB.out.cell (p:=⟨b,off + (k + t) / 8,none⟩) hblt).trans (hcell _ _ (bs_get (by omega)))
      obtain ⟨y0,y1⟩:=hB.at_ ((k + t) / 8)
      have hbit:bitI l (k + t)=l.getD ((k + t) / 8) 0 / 2 ^ (7 - (k + t) % 8) % 2:=rfl
      generalize hy:l.getD ((k + t) / 8) 0=y at *
      clear hy
      have z0:0≤y / 2 ^ (7 - (k + t) % 8):=Int.ediv_nonneg y0 (by exact Int.pow_nonneg (by omega))
      have z1:y / 2 ^ (7 - (k + t) % 8)≤255:=Int.le_trans (Int.ediv_le_self _ y0) y1
      have hand:bits .and .i64 (y / 2 ^ (7 - (k + t) % 8)) 1=bitI l (k + t):=by rw [hbit]; exact and_low 1 (by omega) z0 (by omega)
      obtain ⟨i0,i1⟩:=bitI_01 l (k + t)
      have hpart:part l k (t + 1)=2 * p + bitI l (k + t):=by rw [part,HP.out]
      generalize bitI l (k + t)=bt at *
      have p32:p < 32:=p_32 ht p1
      have HH:=hide hpart
      clear hpart hbit p1 hcell hrd
      go_wp2
      go_roundw
      case rel=>exact ⟨t + 1,by omega,by go_num,by rw [HH.out],trivial⟩
      case measure=>simp [intOf]; omega
     ·have hpart:part l k (t + 1)=2 * p:=by
       rw [part,HP.out]
       have:bitI l (k + t)=0:=by
        unfold bitI
        rw [List.getD_eq_getElem?_getD,List.getElem?_eq_none (by omega)]
        simp
       omega
      have p32:p < 32:=p_32 ht p1
      have HH:=hide hpart
      clear hpart p1 hrd
      go_wp2
      go_roundw
      case rel=>exact ⟨t + 1,by omega,by go_num,by rw [HH.out],trivial⟩
      case measure=>simp [intOf]; omega
    ·obtain rfl:t=5:=by omega
     obtain ⟨pn,rfl⟩:=Int.eq_ofNat_of_zero_le p0
     have p32:pn < 32:=by omega
     have hlt':=ltr_at pn p32
     clear p0 p1 hrd
     go_wp2_with (at_builtin; refine wpList_app _ rfl (.tmp 41) (.tmp 44) _ rfl w.heap.size 5 i0 _ 1 Tryz.underlying39 hi0 hz0 hz1 hz2 rfl _ _ _ rfl (HO.out.alloc _) _ _ rfl (rd_one _ _ _) (bs_one _) (by rw [bs_length]; simp only [maxLen,List.length_singleton]; omega) (by rw [bs_length]; simp only [List.length_singleton]; omega) (by have:=HB.out.size; simp; omega) ?_; intro v3 w3 own3 gr3)
     go_roundw
     case rel=>exact ⟨k + 5,xs++[ltr pn],by omega,by go_num,own_len (own_cells own3 (bs_append _ _).symm) (by simp [bs]),hide (by
       have:=hx.out
       rw [grp_more hlt,HP.out] at this
       rw [← this]
       simp),Below.row (HB.out.alloc HB.out.size _) (by have:=HB.out.size; simp; omega) (HO.out.alloc _) gr3⟩
     case measure=>simp [intOf]; omega
  ·have hfin:xs=b32 l:=by
    have:=hx.out
    rw [grp_end hlt] at this
    simpa using this
   have HF:=hide hfin
   have HO:=hide hown
   have HB:=hide hbel
   clear hfin hown hbel hrd
   go_wp2
   go_ret
   rw [← HF.out]
   exact ⟨_,rfl,Own.of HO.out (by simp [bs]),HB.out⟩
end Go.Proofs.YtgaadpkefncnmaaGreatDoor
/-
  Slices of bytes as strings.
-/
namespace Go.Proofs.YtgaadpkefncnmaaGreatDoor
open Go.RowKit
/-- A slice of bytes, converted to a string. -/
theorem conv_rd {P:Program} {src dst e:TypeId} (hs:P.underlying src=some (.slice e)) (he:P.underlying e=some (.int .u8)) (hd:P.underlying dst=some .string)
  {w:World} {v:Value} {l:List Int} (h:Rd w v (bs l)):(convert src dst v).run P w=.ok (.string (strOfNums l)) w:=by
 obtain ⟨A,c,rfl,hc,hm,hcell⟩:=h
 rw [bs_length] at *
 cases A with
 | none =>
   have h0:l = []:=by
    rcases Nat.eq_zero_or_pos l.length with h | h
    ·exact List.eq_nil_of_length_eq_zero h
    ·obtain ⟨b,off,hA,_⟩:=hcell h
     cases hA
   subst h0
   exact run_convert_bytes_nil w src e hs he _ _ dst hd
 | some ad =>
   have hl:(loadCells ad l.length).run P w=.ok (l.map (Value.int .u8)).toArray w:=by
    have:=run_loadCells_list (P:=P) w ad (l.map (Value.int .u8)) (fun j u hj=>by
     have hjl:j < l.length:=by
      have:=(List.getElem?_eq_some_iff.1 hj).1
      simpa using this
     obtain ⟨b,off,hA,_,hc⟩:=hcell (by omega)
     injection hA with hA
     subst hA
     rw [Addr.add_lit]
     exact hc j u hj)
    simpa using this
   rw [run_convert_bytes_string w src dst e _ _ _ hs he hd,run_bytesToString w ad _ _ l hl,foldl_push_bytes]
   simp [strOfNums,ByteArray.empty,ByteArray.emptyWithCapacity]
   rfl
theorem str_get {l:List Int} (hB:Byt l) {k:Nat} (h:k < (strOfNums l).size):(((strOfNums l)[k]'h).toNat:Int)=l.getD k 0:=by
 have hk:k < l.length:=by rw [strOfNums_size] at h; exact h
 have hy:=hB.at_ k
 have e:(strOfNums l)[k]'h=(strOfNums l).data.toList[k]'(by simpa using h):=rfl
 rw [e]
 simp only [strOfNums_data,List.getElem_map]
 have e2:l.getD k 0=l[k]:=by simp [List.getD,List.getElem?_eq_getElem hk]
 rw [e2] at hy ⊢
 rw [UInt8.toNat_ofNat']
 omega
theorem str_inj {a b:List Int} (ha:Byt a) (hb:Byt b) (h:(strOfNums a).toList=(strOfNums b).toList):a=b:=by
 rw [ByteArray.toList_eq,ByteArray.toList_eq,strOfNums_data,strOfNums_data] at h
 induction a generalizing b with
 | nil =>
   cases b with
   | nil=>rfl
   | cons y b=>simp at h
 | cons x a ih =>
   cases b with
   | nil=>simp at h
   | cons y b =>
     simp only [List.map_cons,List.cons.injEq] at h
     have h1:=congrArg UInt8.toNat h.1
     rw [UInt8.toNat_ofNat',UInt8.toNat_ofNat'] at h1
     have hx:=ha x (List.mem_cons_self ..)
     have hy:=hb y (List.mem_cons_self ..)
     have e:x=y:=by omega
     rw [e,ih (fun z hz=>ha z (List.mem_cons_of_mem _ hz)) (fun z hz=>hb z (List.mem_cons_of_mem _ hz)) h.2]
end Go.Proofs.YtgaadpkefncnmaaGreatDoor
/-
  Data: as they are, and as they lie in memory. A struct is a list of cells; a slice is one cell that says how many cells each element has.
-/
namespace Go.Proofs.YtgaadpkefncnmaaGreatDoor
open Go.RowKit
set_option linter.unusedVariables false
inductive Cel where
 | num (k:IntKind) (n:Int)
 | flag (b:Bool)
 | seq (sz n:Nat) (cs:List Cel)
theorem Cel.ind {P:Cel→Prop} (h0:∀ k n,P (.num k n)) (h1:∀ b,P (.flag b)) (h:∀ sz n cs,(∀ c∈cs,P c)→P (.seq sz n cs)):∀ c,P c
 | .num k n=>h0 k n
 | .flag b=>h1 b
 | .seq sz n cs=>h sz n cs fun c hc=>Cel.ind h0 h1 h c
termination_by c=>SizeOf.sizeOf c
decreasing_by
 have:=List.sizeOf_lt_of_mem hc
 simp
 omega
/-- The slice v of n elements of sz cells each reads as the cells us. -/
def Rdc (w:World) (v:Value) (sz n:Nat) (us:List Value):Prop :=
 ∃ A c,v=.slice A n c∧n≤c∧c≤maxLen∧us.length=n * sz ∧
  (0 < n→∃ b off,A=some ⟨b,off,none⟩∧b < w.heap.size∧w.rangeAt b off us)
/-- The block of a slice with elements. -/
def blk:Value→List Nat
 | .slice (some a) (_ + 1) _=>[a.block]
 | _=>[]
theorem blk_some {a:Addr} {n c:Nat} (h:0 < n):blk (.slice (some a) n c) = [a.block]:=by
 cases n with
 | zero=>omega
 | succ n=>rfl
theorem blk_none {A:Option Addr} {c:Nat} : blk (.slice A 0 c) = []:=by cases A <;> rfl
mutual
/-- The datum lies in the cell v; the blocks that it takes, in order, are F. -/
def Lie (w:World):Cel→Value→List Nat→Prop
 | .num k n,v,F=>v=.int k n∧F = []
 | .flag b,v,F=>v=.bool b∧F = []
 | .seq sz n cs,v,F=>sz≤64∧∃ us F2,Rdc w v sz n us∧Lies w cs us F2∧F=blk v++F2
def Lies (w:World):List Cel→List Value→List Nat→Prop
 | [],us,F=>us = []∧F = []
 | c :: cs,us,F=>∃ u r F1 F2,us=u :: r∧F=F1++F2∧Lie w c u F1∧Lies w cs r F2
end
theorem Lies.len {w:World} : ∀ {cs:List Cel} {us:List Value} {F:List Nat},Lies w cs us F→us.length=cs.length
 | [],us,F,h=>by rw [Lies] at h; rw [h.1]; rfl
 | c :: cs,us,F,h=>by
   rw [Lies] at h
   obtain ⟨u,r,F1,F2,rfl,_,_,h⟩:=h
   simp [h.len]
theorem lies_nil (w:World):Lies w [] [] []:=by rw [Lies]; exact ⟨rfl,rfl⟩
theorem lies_cons {w:World} {c:Cel} {cs:List Cel} {u:Value} {us:List Value} {F1 F2:List Nat} (h:Lie w c u F1) (k:Lies w cs us F2):Lies w (c :: cs) (u :: us) (F1++F2):=by
 rw [Lies]; exact ⟨u,us,F1,F2,rfl,rfl,h,k⟩
theorem lies_one {w:World} {c:Cel} {u:Value} {F:List Nat} (h:Lie w c u F):Lies w [c] [u] F:=by
 have:=lies_cons h (lies_nil w)
 rwa [List.append_nil] at this
theorem lie_num (w:World) (k:IntKind) (n:Int):Lie w (.num k n) (.int k n) []:=by rw [Lie]; exact ⟨rfl,rfl⟩
theorem lie_flag (w:World) (b:Bool):Lie w (.flag b) (.bool b) []:=by rw [Lie]; exact ⟨rfl,rfl⟩
theorem Lies.append {w:World} : ∀ {a b:List Cel} {ua ub:List Value} {Fa Fb:List Nat},Lies w a ua Fa→Lies w b ub Fb→Lies w (a++b) (ua++ub) (Fa++Fb)
 | [],b,ua,ub,Fa,Fb,h,k=>by rw [Lies] at h; obtain ⟨rfl,rfl⟩:=h; exact k
 | c :: a,b,ua,ub,Fa,Fb,h,k=>by
   rw [Lies] at h
   obtain ⟨u,r,F1,F2,rfl,rfl,h1,h2⟩:=h
   rw [List.append_assoc]
   exact lies_cons h1 (h2.append k)
theorem Lies.parts {w:World} : ∀ {a b:List Cel} {us:List Value} {F:List Nat},Lies w (a++b) us F→∃ ua ub Fa Fb,us=ua++ub∧F=Fa++Fb∧Lies w a ua Fa∧Lies w b ub Fb
 | [],b,us,F,h=>⟨[],us,[],F,rfl,rfl,lies_nil w,h⟩
 | c :: a,b,us,F,h=>by
   rw [List.cons_append,Lies] at h
   obtain ⟨u,r,F1,F2,rfl,rfl,h1,h2⟩:=h
   obtain ⟨ua,ub,Fa,Fb,rfl,rfl,h3,h4⟩:=h2.parts
   exact ⟨u :: ua,ub,F1++Fa,Fb,rfl,by rw [List.append_assoc],lies_cons h1 h3,h4⟩
theorem Rdc.keep {w w' : World} {v:Value} {sz n:Nat} {us:List Value} (h:Rdc w v sz n us) (hs:w.heap.size≤w'.heap.size) (hk:∀ g∈blk v,w'.heap[g]? = w.heap[g]?):Rdc w' v sz n us:=by
 obtain ⟨A,c,rfl,h1,h2,h3,h4⟩:=h
 refine ⟨A,c,rfl,h1,h2,h3,fun hn=>?_⟩
 obtain ⟨b,off,rfl,hb,hr⟩:=h4 hn
 have e:=hk b (by rw [blk_some hn]; exact List.mem_singleton.2 rfl)
 exact ⟨b,off,rfl,by omega,fun j u hu=>(World.cell?_of_block (w:=w) (a:=⟨b,off + j,none⟩) e).trans (hr j u hu)⟩
theorem Rdc.lt {w:World} {v:Value} {sz n:Nat} {us:List Value} (h:Rdc w v sz n us):∀ g∈blk v,g < w.heap.size:=by
 obtain ⟨A,c,rfl,h1,h2,h3,h4⟩:=h
 intro g hg
 rcases Nat.eq_zero_or_pos n with rfl | hn
 ·rw [blk_none] at hg; cases hg
 ·obtain ⟨b,off,rfl,hb,hr⟩:=h4 hn
  rw [blk_some hn] at hg
  rw [List.mem_singleton.1 hg]
  exact hb
mutual
theorem Lie.lt {w:World} : ∀ {c:Cel} {v:Value} {F:List Nat},Lie w c v F→∀ g∈F,g < w.heap.size
 | .num k n,v,F,h=>by rw [Lie] at h; rw [h.2]; intro g hg; cases hg
 | .flag b,v,F,h=>by rw [Lie] at h; rw [h.2]; intro g hg; cases hg
 | .seq sz n cs,v,F,h=>by
   rw [Lie] at h
   obtain ⟨_,us,F2,h1,h2,rfl⟩:=h
   intro g hg
   rcases List.mem_append.1 hg with hg | hg
   ·exact h1.lt g hg
   ·exact h2.lt g hg
theorem Lies.lt {w:World} : ∀ {cs:List Cel} {us:List Value} {F:List Nat},Lies w cs us F→∀ g∈F,g < w.heap.size
 | [],us,F,h=>by rw [Lies] at h; rw [h.2]; intro g hg; cases hg
 | c :: cs,us,F,h=>by
   rw [Lies] at h
   obtain ⟨u,r,F1,F2,rfl,rfl,h1,h2⟩:=h
   intro g hg
   rcases List.mem_append.1 hg with hg | hg
   ·exact h1.lt g hg
   ·exact h2.lt g hg
end
mutual
theorem Lie.keep {w w' : World} (hs:w.heap.size≤w'.heap.size):∀ {c:Cel} {v:Value} {F:List Nat},Lie w c v F→(∀ g∈F,w'.heap[g]? = w.heap[g]?)→Lie w' c v F
 | .num k n,v,F,h,_=>by rw [Lie] at h ⊢; exact h
 | .flag b,v,F,h,_=>by rw [Lie] at h ⊢; exact h
 | .seq sz n cs,v,F,h,hk=>by
   rw [Lie] at h ⊢
   obtain ⟨h0,us,F2,h1,h2,rfl⟩:=h
   exact ⟨h0,us,F2,h1.keep hs fun g hg=>hk g (List.mem_append.2 (.inl hg)),h2.keep hs fun g hg=>hk g (List.mem_append.2 (.inr hg)),rfl⟩
theorem Lies.keep {w w' : World} (hs:w.heap.size≤w'.heap.size):∀ {cs:List Cel} {us:List Value} {F:List Nat},Lies w cs us F→(∀ g∈F,w'.heap[g]? = w.heap[g]?)→Lies w' cs us F
 | [],us,F,h,_=>by rw [Lies] at h ⊢; exact h
 | c :: cs,us,F,h,hk=>by
   rw [Lies] at h ⊢
   obtain ⟨u,r,F1,F2,rfl,rfl,h1,h2⟩:=h
   exact ⟨u,r,F1,F2,rfl,rfl,h1.keep hs fun g hg=>hk g (List.mem_append.2 (.inl hg)),h2.keep hs fun g hg=>hk g (List.mem_append.2 (.inr hg))⟩
end
theorem Lie.step {w w' : World} {c:Cel} {v:Value} {F:List Nat} (h:Lie w c v F) (hb:Below w.heap.size w w'):Lie w' c v F:=h.keep hb.size fun g hg=>hb.block g (h.lt g hg)
theorem Lies.step {w w' : World} {cs:List Cel} {us:List Value} {F:List Nat} (h:Lies w cs us F) (hb:Below w.heap.size w w'):Lies w' cs us F:=h.keep hb.size fun g hg=>hb.block g (h.lt g hg)
/-! ### Each value is one cell -/
theorem Lie.one {w:World} {c:Cel} {v:Value} {F:List Nat} (h:Lie w c v F):v.oneCell' = true:=by
 cases c with
 | num k n=>rw [Lie] at h; rw [h.1]; rfl
 | flag b=>rw [Lie] at h; rw [h.1]; rfl
 | seq sz n cs=>rw [Lie] at h; obtain ⟨_,us,F2,⟨A,c,rfl,_⟩,_⟩:=h; rfl
theorem Lies.one {w:World} : ∀ {cs:List Cel} {us:List Value} {F:List Nat},Lies w cs us F→∀ u∈us,u.oneCell' = true
 | [],us,F,h=>by rw [Lies] at h; rw [h.1]; intro u hu; cases hu
 | c :: cs,us,F,h=>by
   rw [Lies] at h
   obtain ⟨u,r,F1,F2,rfl,rfl,h1,h2⟩:=h
   intro x hx
   rcases List.mem_cons.1 hx with rfl | hx
   ·exact h1.one
   ·exact h2.one x hx
/-! ### Rows of numbers -/
abbrev raw (l:List Int):Cel:=.seq 1 l.length (l.map (Cel.num .u8))
abbrev ints (l:List Int):Cel:=.seq 1 l.length (l.map (Cel.num .i64))
theorem lies_nums (w:World) (k:IntKind):∀ l:List Int,Lies w (l.map (Cel.num k)) (l.map (Value.int k)) []
 | []=>lies_nil w
 | x :: l=>lies_cons (lie_num w k x) (lies_nums w k l)
theorem Lies.nums {w:World} {k:IntKind} : ∀ {l:List Int} {us:List Value} {F:List Nat},Lies w (l.map (Cel.num k)) us F→us=l.map (Value.int k)∧F = []
 | [],us,F,h=>by rw [List.map_nil,Lies] at h; exact h
 | x :: l,us,F,h=>by
   rw [List.map_cons,Lies] at h
   obtain ⟨u,r,F1,F2,rfl,rfl,h1,h2⟩:=h
   rw [Lie] at h1
   obtain ⟨rfl,rfl⟩:=h1
   obtain ⟨rfl,rfl⟩:=h2.nums
   exact ⟨rfl,rfl⟩
theorem Rd.rdc {w:World} {v:Value} {us:List Value} (h:Rd w v us) {n:Nat} (hn:n=us.length):Rdc w v 1 n us:=by
 subst hn
 obtain ⟨A,c,rfl,h1,h2,h3⟩:=h
 exact ⟨A,c,rfl,h1,h2,by omega,fun hp=>by obtain ⟨b,off,e,hb,hc⟩:=h3 hp; exact ⟨b,off,e,hb,hc⟩⟩
theorem Rdc.rd {w:World} {v:Value} {n:Nat} {us:List Value} (h:Rdc w v 1 n us):Rd w v us:=by
 obtain ⟨A,c,rfl,h1,h2,h3,h4⟩:=h
 have e:us.length=n:=by omega
 subst e
 exact ⟨A,c,rfl,h1,h2,fun hp=>by obtain ⟨b,off,e,hb,hc⟩:=h4 hp; exact ⟨b,off,e,hb,hc⟩⟩
theorem Rd.lie {w:World} {v:Value} {l:List Int} (h:Rd w v (bs l)):Lie w (raw l) v (blk v):=by
 rw [Lie]
 exact ⟨by decide,bs l,[],h.rdc (bs_length l).symm,lies_nums w .u8 l,by simp⟩
theorem Lie.rd {w:World} {v:Value} {l:List Int} {F:List Nat} (h:Lie w (raw l) v F):Rd w v (bs l)∧F=blk v:=by
 rw [Lie] at h
 obtain ⟨_,us,F2,h1,h2,rfl⟩:=h
 obtain ⟨rfl,rfl⟩:=h2.nums
 exact ⟨h1.rd,by simp⟩
/-! ### Lists of typed things -/
def cells {α:Type} (f:α→List Cel):List α→List Cel
 | []=>[]
 | x :: l=>f x++cells f l
theorem map_cells {α:Type} (f:α→Cel) (l:List α):l.map f=cells (fun x=>[f x]) l:=by
 induction l with
 | nil=>rfl
 | cons x l ih=>simp [cells,ih]
theorem cells_app {α:Type} (f:α→List Cel) (a b:List α):cells f (a++b)=cells f a++cells f b:=by
 induction a with
 | nil=>rfl
 | cons x a ih=>simp [cells,ih]
theorem cells_len {α:Type} {f:α→List Cel} {sz:Nat} (hf:∀ x,(f x).length=sz) (l:List α):(cells f l).length=l.length * sz:=by
 induction l with
 | nil=>simp [cells]
 | cons x a ih=>simp [cells,ih,hf,Nat.add_mul]; omega
theorem cells_drop {α:Type} (f:α→List Cel) {l:List α} {i:Nat} (h:i < l.length):cells f (l.drop i)=f l[i]++cells f (l.drop (i + 1)):=by
 rw [List.drop_eq_getElem_cons h,cells]
theorem cells_take {α:Type} (f:α→List Cel) {l:List α} {i:Nat} (h:i < l.length):cells f (l.take (i + 1))=cells f (l.take i)++f l[i]:=by
 rw [List.take_succ_eq_append_getElem h,cells_app]
 simp [cells]
theorem cells_split {α:Type} (f:α→List Cel) (l:List α) (i:Nat):cells f l=cells f (l.take i)++cells f (l.drop i):=by
 rw [← cells_app,List.take_append_drop]
abbrev seqOf {α:Type} (sz:Nat) (f:α→List Cel) (l:List α):Cel:=.seq sz l.length (cells f l)
theorem raw_eq (l:List Int):raw l=seqOf 1 (fun x=>[Cel.num .u8 x]) l:=by rw [raw,map_cells]
theorem ints_eq (l:List Int):ints l=seqOf 1 (fun x=>[Cel.num .i64 x]) l:=by rw [ints,map_cells]
abbrev names (ns:List (List Int)):Cel:=seqOf 1 (fun n=>[raw n]) ns
/-! ### What a call leaves alone -/
/-- At most the blocks of F have turned. -/
structure But (F:List Nat) (w w' : World):Prop where
 os:w'.os=w.os
 tape:w'.tape=w.tape
 output:w'.output=w.output
 size:w.heap.size≤w'.heap.size
 block:∀ k,k < w.heap.size→k∉F→w'.heap[k]? = w.heap[k]?
theorem But.refl (F:List Nat) (w:World):But F w w:=⟨rfl,rfl,rfl,Nat.le_refl _,fun _ _ _=>rfl⟩
theorem But.trans {F:List Nat} {a b c:World} (h:But F a b) (k:But F b c):But F a c :=
 ⟨k.os.trans h.os,k.tape.trans h.tape,k.output.trans h.output,Nat.le_trans h.size k.size,fun i hi ho=>(k.block i (Nat.lt_of_lt_of_le hi h.size) ho).trans (h.block i hi ho)⟩
theorem But.mono {F G:List Nat} {a b:World} (h:But F a b) (hs:∀ g∈F,g∈G):But G a b:=⟨h.os,h.tape,h.output,h.size,fun k hk hg=>h.block k hk fun hf=>hg (hs k hf)⟩
theorem Below.but {w w' : World} (h:Below w.heap.size w w') (F:List Nat):But F w w':=⟨h.os,h.tape,h.output,h.size,fun k hk _=>h.block k hk⟩
theorem But.below {F:List Nat} {B:Nat} {a w w' : World} (h:But F w w') (hb:Below B a w) (hF:∀ g∈F,B≤g) (hs:B≤w.heap.size):Below B a w' :=
 hb.trans ⟨h.os,h.tape,h.output,h.size,fun k hk=>h.block k (Nat.lt_of_lt_of_le hk hs) fun hg=>by have:=hF k hg; omega⟩
/-- The blocks may be written. -/
def LiveAt (w:World) (g:Nat):Prop:=∃ cur e fz,w.heap[g]? = some (.cells cur e fz)∧(fz=(0,0)∨cur.size≤fz.1)
theorem LiveAt.of {w:World} {g:Nat} {cur:Array Value} {e:TypeId} (h:w.heap[g]? = some (.cells cur e (0,0))):LiveAt w g:=⟨cur,e,(0,0),h,.inl rfl⟩
theorem setCell_fz {w:World} {b i:Nat} {cs:Array Value} {T:TypeId} {fr:Nat × Nat} (hb:w.heap[b]? = some (.cells cs T fr)) (v:Value):(w.setCell ⟨b,i,none⟩ v).heap[b]? = some (.cells (cs.setIfInBounds i v) T fr):=by
 simp [World.setCell,Array.getElem?_modify,hb]
theorem frozen_live {w:World} {g j:Nat} {cur:Array Value} {e:TypeId} {fz:Nat × Nat} {v:Value} (he:w.heap[g]? = some (.cells cur e fz)) (hf:fz=(0,0)∨cur.size≤fz.1) (hc:w.cell? ⟨g,j,none⟩=some v):w.frozen? ⟨g,j,none⟩=false:=by
 rcases hf with rfl | hf
 ·exact frozen_of_row w g _ _ _ he
 ·rw [cell_of_row w g j _ _ fz he] at hc
  have hj:=(Array.getElem?_eq_some_iff.1 hc).1
  unfold World.frozen?
  simp only [he]
  have:¬ fz.1≤j:=by omega
  simp [this]
def Live (w:World) (F:List Nat):Prop:=∀ g∈F,LiveAt w g
theorem Live.keep {w w' : World} {F:List Nat} (h:Live w F) (hk:∀ g∈F,w'.heap[g]? = w.heap[g]?):Live w' F:=fun g hg=>by
 obtain ⟨cur,e,fz,he,hf⟩:=h g hg
 exact ⟨cur,e,fz,(hk g hg).trans he,hf⟩
theorem Live.lt {w:World} {F:List Nat} (h:Live w F):∀ g∈F,g < w.heap.size:=fun g hg=>by
 obtain ⟨cur,e,fz,he,_⟩:=h g hg
 exact (Array.getElem?_eq_some_iff.1 he).1
theorem Live.step {w w' : World} {F:List Nat} (h:Live w F) (hb:Below w.heap.size w w'):Live w' F:=h.keep fun g hg=>hb.block g (h.lt g hg)
theorem Live.app {w:World} {F G:List Nat} (h:Live w F) (k:Live w G):Live w (F++G):=fun g hg=>(List.mem_append.1 hg).elim (h g) (k g)
theorem Live.set {w:World} {F:List Nat} (h:Live w F) (b j:Nat) (u:Value):Live (w.setCell ⟨b,j,none⟩ u) F:=fun g hg=>by
 obtain ⟨cur,e,fz,he,hf⟩:=h g hg
 by_cases hgb:b=g
 ·subst hgb
  exact ⟨_,e,fz,setCell_fz he u,by simpa using hf⟩
 ·exact ⟨cur,e,fz,(Below.heap_setCell w ⟨b,j,none⟩ u g (fun e=>hgb e.symm)).trans he,hf⟩
/-- A result's blocks: all different, all new, all may be written. -/
structure Fresh (lo:Nat) (w:World) (F:List Nat):Prop where
 nodup:F.Nodup
 low:∀ g∈F,lo≤g
 live:Live w F
theorem Fresh.nil (lo:Nat) (w:World):Fresh lo w []:=⟨List.nodup_nil,(fun _ h=>by cases h),fun _ h=>by cases h⟩
theorem Fresh.step {lo:Nat} {w w' : World} {F:List Nat} (h:Fresh lo w F) (hb:Below w.heap.size w w'):Fresh lo w' F:=⟨h.nodup,h.low,h.live.step hb⟩
theorem Fresh.base {lo lo' : Nat} {w:World} {F:List Nat} (h:Fresh lo w F) (hl:lo'≤lo):Fresh lo' w F:=⟨h.nodup,fun g hg=>Nat.le_trans hl (h.low g hg),h.live⟩
theorem Fresh.app {lo hi:Nat} {w:World} {F G:List Nat} (h:Fresh lo w F) (hh:∀ g∈F,g < hi) (k:Fresh hi w G) (hl:lo≤hi):Fresh lo w (F++G) :=
 ⟨List.nodup_append.2 ⟨h.nodup,k.nodup,fun a ha b hb e=>by have:=hh a ha; have:=k.low b hb; omega⟩,
  fun g hg=>(List.mem_append.1 hg).elim (h.low g) fun hg=>Nat.le_trans hl (k.low g hg),h.live.app k.live⟩
theorem Fresh.more {lo:Nat} {w w' : World} {F G:List Nat} (h:Fresh lo w F) (hb:Below w.heap.size w w') (k:Fresh w.heap.size w' G) (hl:lo≤w.heap.size):Fresh lo w' (F++G) :=
 (h.step hb).app (fun g hg=>h.live.lt g hg) k hl
theorem Fresh.left {lo:Nat} {w:World} {F G:List Nat} (h:Fresh lo w (F++G)):Fresh lo w F :=
 ⟨(List.nodup_append.1 h.nodup).1,fun g hg=>h.low g (List.mem_append.2 (.inl hg)),fun g hg=>h.live g (List.mem_append.2 (.inl hg))⟩
theorem Fresh.right {lo:Nat} {w:World} {F G:List Nat} (h:Fresh lo w (F++G)):Fresh lo w G :=
 ⟨(List.nodup_append.1 h.nodup).2.1,fun g hg=>h.low g (List.mem_append.2 (.inr hg)),fun g hg=>h.live g (List.mem_append.2 (.inr hg))⟩
/-- Behind a call that turns others' blocks only. -/
theorem Lies.but {w w' : World} {cs:List Cel} {us:List Value} {F G:List Nat} (h:Lies w cs us F) (hb:But G w w') (hd:∀ g∈F,g∉G):Lies w' cs us F:=h.keep hb.size fun g hg=>hb.block g (h.lt g hg) (hd g hg)
theorem Lie.but {w w' : World} {c:Cel} {v:Value} {F G:List Nat} (h:Lie w c v F) (hb:But G w w') (hd:∀ g∈F,g∉G):Lie w' c v F:=h.keep hb.size fun g hg=>hb.block g (h.lt g hg) (hd g hg)
theorem Live.but {w w' : World} {F G:List Nat} (h:Live w F) (hb:But G w w') (hd:∀ g∈F,g∉G):Live w' F:=h.keep fun g hg=>hb.block g (h.lt g hg) (hd g hg)
/-! ### Sizes and marks -/
/-- What is left of a measure. -/
def lft (left:Int) (n:Nat):Int:=if (n:Int)≤left then left - n else -1
theorem ret_lft {left:Int} {n:Nat} {x:Int} (h:(n:Int)≤left) (hx:x=left - n):Ending.returned (.int .i64 x)=.returned (.int .i64 (lft left n)):=by rw [lft,if_pos h,hx]
theorem ret_lno {left:Int} {n:Nat} (h:left < (n:Int)):Ending.returned (.int .i64 (-1))=.returned (.int .i64 (lft left n)):=by rw [lft,if_neg (by omega)]
mutual
def Cel.bulk:Cel→Nat
 | .num _ _=>0
 | .flag _=>0
 | .seq _ n cs=>n + bulks cs
def bulks:List Cel→Nat
 | []=>0
 | c :: cs=>c.bulk + bulks cs
end
theorem bulks_app (a b:List Cel):bulks (a++b)=bulks a + bulks b:=by
 induction a with
 | nil=>simp [bulks]
 | cons c a ih=>simp [bulks,ih]; omega
mutual
def Cel.cnt:Cel→Nat
 | .num _ _=>1
 | .flag _=>1
 | .seq _ _ cs=>cnts cs
def cnts:List Cel→Nat
 | []=>0
 | c :: cs=>c.cnt + cnts cs
end
theorem num_cnt (k:IntKind) (n:Int):(Cel.num k n).cnt=1:=rfl
theorem cnts_app (a b:List Cel):cnts (a++b)=cnts a + cnts b:=by
 induction a with
 | nil=>simp [cnts]
 | cons c a ih=>simp [cnts,ih]; omega
def mk1:IntKind→Int→Int
 | .u8,s=>s % 256
 | _,s=>s
theorem mk1_i64 (s:Int):mk1 .i64 s=s:=rfl
theorem mk1_u8 (s:Int):mk1 .u8 s=s % 256:=rfl
mutual
def Cel.mk:Cel→Int→Cel
 | .num k _,s=>.num k (mk1 k s)
 | .flag _,s=>.flag (s % 3 == 0)
 | .seq sz n cs,s=>.seq sz n (mkc cs s)
def mkc:List Cel→Int→List Cel
 | [],_=>[]
 | c :: cs,s=>c.mk s :: mkc cs (s + c.cnt)
end
theorem mkc_app (a b:List Cel) (s:Int):mkc (a++b) s=mkc a s++mkc b (s + cnts a):=by
 induction a generalizing s with
 | nil=>simp [mkc,cnts]
 | cons c a ih=>simp [mkc,cnts,ih]; congr 1; omega
theorem mkc_len (a:List Cel) (s:Int):(mkc a s).length=a.length:=by
 induction a generalizing s with
 | nil=>simp [mkc]
 | cons c a ih=>simp [mkc,ih]
/-- By value: the numbers stay. -/
def Cel.cnt0:Cel→Nat
 | .num _ _=>0
 | .flag _=>0
 | c=>c.cnt
def cnts0:List Cel→Nat
 | []=>0
 | c :: cs=>c.cnt0 + cnts0 cs
theorem cnts0_app (a b:List Cel):cnts0 (a++b)=cnts0 a + cnts0 b:=by
 induction a with
 | nil=>simp [cnts0]
 | cons c a ih=>simp [cnts0,ih]; omega
def Cel.mk0:Cel→Int→Cel
 | .num k n,_=>.num k n
 | .flag b,_=>.flag b
 | c,s=>c.mk s
def mkc0:List Cel→Int→List Cel
 | [],_=>[]
 | c :: cs,s=>c.mk0 s :: mkc0 cs (s + c.cnt0)
theorem mkc0_app (a b:List Cel) (s:Int):mkc0 (a++b) s=mkc0 a s++mkc0 b (s + cnts0 a):=by
 induction a generalizing s with
 | nil=>simp [mkc0,cnts0]
 | cons c a ih=>simp [mkc0,cnts0,ih]; congr 1; omega
mutual
theorem Lie.cntb {w:World} : ∀ {c:Cel} {v:Value} {F:List Nat},Lie w c v F→c.cnt≤1 + 65 * c.bulk
 | .num k n,v,F,h=>by simp [Cel.cnt]
 | .flag b,v,F,h=>by simp [Cel.cnt]
 | .seq sz n cs,v,F,h=>by
   rw [Lie] at h
   obtain ⟨h0,us,F2,⟨A,c,rfl,_,_,hl,_⟩,h2,rfl⟩:=h
   have h3:=h2.cntb
   have h4:=h2.len
   have h5:n * sz≤n * 64:=Nat.mul_le_mul_left n h0
   rw [Cel.cnt,Cel.bulk]
   omega
theorem Lies.cntb {w:World} : ∀ {cs:List Cel} {us:List Value} {F:List Nat},Lies w cs us F→cnts cs≤cs.length + 65 * bulks cs
 | [],us,F,h=>by simp [cnts]
 | c :: cs,us,F,h=>by
   rw [Lies] at h
   obtain ⟨u,r,F1,F2,rfl,rfl,h1,h2⟩:=h
   have h3:=h1.cntb
   have h4:=h2.cntb
   rw [cnts,bulks,List.length_cons]
   omega
end
theorem cnts0_le (cs:List Cel):cnts0 cs≤cnts cs:=by
 induction cs with
 | nil=>simp [cnts0,cnts]
 | cons c cs ih =>
   rw [cnts0,cnts]
   cases c <;> simp [Cel.cnt0] <;> omega
/-! ### The round of a marking loop -/
/-- The cells A are marked, the cells B not yet. -/
structure MarkP (w:World) (b off:Nat) (s:Int) (F:List Nat) (A B:List Cel) (us:List Value) (wr:World):Prop where
 lies:Lies wr (mkc A s++B) us F
 range:wr.rangeAt b off us
 live:Live wr (b :: F)
 nodup:(b :: F).Nodup
 but:But (b :: F) w wr
 lt:b < wr.heap.size
theorem MarkP.cell {w:World} {b off:Nat} {s:Int} {F:List Nat} {A B:List Cel} {c:Cel} {us:List Value} {wr:World} (h:MarkP w b off s F A (c :: B) us wr) {p:Nat} (hp:p=A.length) :
  ∃ v Fa Fc Fb ua ub,F=Fa++(Fc++Fb)∧us=ua++v :: ub∧ua.length=p∧Lies wr (mkc A s) ua Fa∧Lie wr c v Fc∧Lies wr B ub Fb∧wr.cell? ⟨b,off + p,none⟩=some v∧wr.frozen? ⟨b,off + p,none⟩=false:=by
 subst hp
 obtain ⟨ua,ub,Fa,Fb,e1,e2,h1,h2⟩:=h.lies.parts
 rw [Lies] at h2
 obtain ⟨v,r,Fc,Fd,rfl,rfl,h3,h4⟩:=h2
 have hl:ua.length=A.length:=by rw [h1.len,mkc_len]
 refine ⟨v,Fa,Fc,Fd,ua,r,e2,e1,hl,h1,h3,h4,h.range A.length v ?_,?_⟩
 ·rw [e1,← hl]; simp
 ·obtain ⟨cur,e,fz,he,hf⟩:=h.live b (List.mem_cons_self ..)
  exact frozen_live he hf (h.range A.length v (by rw [e1,← hl]; simp))
/-- A number or a flag is marked in its place. -/
theorem MarkP.prim {w:World} {b off:Nat} {s:Int} {F:List Nat} {A B:List Cel} {c:Cel} {x y:Value} {us:List Value} {wr:World} (h:MarkP w b off s F A (c :: B) us wr) {p:Nat} (hp:p=A.length)
  (hx:∀ (w:World) (v:Value) (G:List Nat),Lie w c v G→v=x∧G = []) (hy:∀ w:World,Lie w (c.mk (s + cnts A)) y []) :
  wr.cell? ⟨b,off + p,none⟩=some x∧wr.frozen? ⟨b,off + p,none⟩=false∧∃ us',MarkP w b off s F (A++[c]) B us' (wr.setCell ⟨b,off + p,none⟩ y):=by
 obtain ⟨v,Fa,Fc,Fb,ua,ub,e1,e2,e3,h1,h2,h3,h4,h5⟩:=h.cell hp
 obtain ⟨rfl,rfl⟩:=hx _ _ _ h2
 refine ⟨h4,h5,?_⟩
 have hnd:=List.nodup_cons.1 h.nodup
 have hbut:But [b] wr (wr.setCell ⟨b,off + p,none⟩ y):=⟨rfl,rfl,rfl,by simp,fun g hg hn=>Below.heap_setCell wr ⟨b,off + p,none⟩ _ g (fun e=>hn (List.mem_singleton.2 e))⟩
 have hd:∀ g∈F,g∉[b]:=fun g hg he=>hnd.1 (List.mem_singleton.1 he ▸ hg)
 refine ⟨us.set p y,?_,?_,h.live.set _ _ _,h.nodup,h.but.trans (hbut.mono fun g hg=>List.mem_cons.2 (.inl (List.mem_singleton.1 hg))),by simpa using h.lt⟩
 ·have e4:us.set p y=ua++y :: ub:=by rw [e2,← e3]; simp
  rw [e4,mkc_app,mkc,mkc,List.append_assoc,List.singleton_append,e1]
  rw [e1] at hd
  refine (h1.but hbut fun g hg=>hd g (by simp [hg])).append ?_
  exact lies_cons (hy _) (h3.but hbut fun g hg=>hd g (by simp [hg]))
 ·intro j u hu
  by_cases hj:p=j
  ·subst hj
   have hlt:p < us.length:=by rw [e2]; simp; omega
   rw [List.getElem?_set_self hlt] at hu
   rw [World.cell?_setCell_same _ _ _ h4]
   exact hu
  ·rw [List.getElem?_set_ne hj] at hu
   rw [World.cell?_setCell_other _ _ _ _ (by intro e; injection e with e1 e2; omega)]
   exact h.range j u hu
theorem MarkP.num {w:World} {b off:Nat} {s:Int} {F:List Nat} {A B:List Cel} {k:IntKind} {x:Int} {us:List Value} {wr:World} (h:MarkP w b off s F A (.num k x :: B) us wr) {p:Nat} (hp:p=A.length) {y:Int} (hy:y=mk1 k (s + cnts A)) :
  wr.cell? ⟨b,off + p,none⟩=some (.int k x)∧wr.frozen? ⟨b,off + p,none⟩=false∧∃ us',MarkP w b off s F (A++[.num k x]) B us' (wr.setCell ⟨b,off + p,none⟩ (.int k y)) :=
 h.prim hp (fun w v G h=>by rw [Lie] at h; exact h) fun w=>by rw [Cel.mk,← hy]; exact lie_num _ _ _
theorem MarkP.flag {w:World} {b off:Nat} {s:Int} {F:List Nat} {A B:List Cel} {x:Bool} {us:List Value} {wr:World} (h:MarkP w b off s F A (.flag x :: B) us wr) {p:Nat} (hp:p=A.length) {y:Bool} (hy:y=((s + cnts A) % 3 == 0)) :
  wr.cell? ⟨b,off + p,none⟩=some (.bool x)∧wr.frozen? ⟨b,off + p,none⟩=false∧∃ us',MarkP w b off s F (A++[.flag x]) B us' (wr.setCell ⟨b,off + p,none⟩ (.bool y)) :=
 h.prim hp (fun w v G h=>by rw [Lie] at h; exact h) fun w=>by rw [Cel.mk,← hy]; exact lie_flag _ _
/-- A cell that is marked by a call. -/
theorem MarkP.call {w:World} {b off:Nat} {s:Int} {F:List Nat} {A B:List Cel} {c:Cel} {us:List Value} {wr:World} (h:MarkP w b off s F A (c :: B) us wr) {p:Nat} (hp:p=A.length) {y:Int} (hy:y=s + cnts A) :
  ∃ v Fc,wr.cell? ⟨b,off + p,none⟩=some v∧Lie wr c v Fc∧Fc.Nodup∧Live wr Fc ∧
   ∀ W,Lie W (c.mk y) v Fc→Live W Fc→But Fc wr W→MarkP w b off s F (A++[c]) B us W:=by
 subst hy
 obtain ⟨v,Fa,Fc,Fb,ua,ub,e1,e2,e3,h1,h2,h3,h4,h5⟩:=h.cell hp
 have hnd:=List.nodup_cons.1 h.nodup
 have hnd2:=hnd.2
 rw [e1] at hnd2
 obtain ⟨n1,n2,n3⟩:=List.nodup_append.1 hnd2
 obtain ⟨n4,n5,n6⟩:=List.nodup_append.1 n2
 have hcF:∀ g∈Fc,g∈F:=fun g hg=>by rw [e1]; simp [hg]
 refine ⟨v,Fc,h4,h2,n4,fun g hg=>h.live g (List.mem_cons.2 (.inr (hcF g hg))),fun W hl hv hb=>?_⟩
 have hbb:b∉Fc:=fun hg=>hnd.1 (hcF b hg)
 refine ⟨?_,?_,?_,h.nodup,h.but.trans (hb.mono fun g hg=>List.mem_cons.2 (.inr (hcF g hg))),Nat.lt_of_lt_of_le h.lt hb.size⟩
 ·rw [mkc_app,mkc,mkc,List.append_assoc,List.singleton_append,e1,e2]
  refine (h1.but hb fun g hg hc=>n3 g hg g (List.mem_append.2 (.inl hc)) rfl).append ?_
  exact lies_cons hl (h3.but hb fun g hg hc=>n6 g hc g hg rfl)
 ·intro j u hu
  rw [World.cell?_of_block (w:=wr) (a:=⟨b,off + j,none⟩) (hb.block b h.lt hbb)]
  exact h.range j u hu
 ·intro g hg
  by_cases hc:g∈Fc
  ·exact hv g hc
  ·obtain ⟨cur,e,fz,he,hf⟩:=h.live g hg
   exact ⟨cur,e,fz,(hb.block g ((Array.getElem?_eq_some_iff.1 he).1) hc).trans he,hf⟩
/-- The loop's state. -/
def MarkL (w:World) (v:Value) (s:Int) (F2:List Nat) (n:Nat) (A B:List Cel) (wr:World):Prop :=
 But (blk v++F2) w wr∧(0 < n→∃ b off c us,v=.slice (some ⟨b,off,none⟩) n c∧MarkP w b off s F2 A B us wr)
theorem MarkL.start {w:World} {sz n:Nat} {cs:List Cel} {v:Value} {F:List Nat} (h:Lie w (.seq sz n cs) v F) (hnd:F.Nodup) (hlv:Live w F) (s:Int):∃ F2,F=blk v++F2∧MarkL w v s F2 n [] cs w:=by
 rw [Lie] at h
 obtain ⟨_,us,F2,⟨A,c,rfl,h1,h2,h3,h4⟩,h5,rfl⟩:=h
 refine ⟨F2,rfl,But.refl _ _,fun hn=>?_⟩
 obtain ⟨b,off,rfl,hb,hr⟩:=h4 hn
 rw [blk_some hn] at hnd hlv
 exact ⟨b,off,c,us,rfl,by rw [mkc]; exact h5,hr,hlv,hnd,But.refl _ _,hb⟩
theorem MarkL.stop {w wr:World} {sz n:Nat} {cs:List Cel} {v:Value} {F F2:List Nat} {s:Int} (h:Lie w (.seq sz n cs) v F) (hF:F=blk v++F2) (hlv:Live w F) (hm:MarkL w v s F2 n cs [] wr) :
  Lie wr ((Cel.seq sz n cs).mk s) v F∧Live wr F∧But F w wr:=by
 subst hF
 refine ⟨?_,?_,hm.1⟩
 ·rw [Lie] at h
  obtain ⟨h0,us,F3,⟨A,c,rfl,h1,h2,h3,h4⟩,h5,h6⟩:=h
  have h7:=List.append_cancel_left h6
  subst h7
  rw [Cel.mk,Lie]
  rcases Nat.eq_zero_or_pos n with rfl | hn
  ·have hc:cs = []:=List.eq_nil_of_length_eq_zero (by rw [← h5.len,h3]; omega)
   subst hc
   rw [Lies] at h5
   obtain ⟨rfl,rfl⟩:=h5
   exact ⟨h0,[],[],⟨A,c,rfl,h1,h2,h3,fun hn=>absurd hn (by omega)⟩,by rw [mkc]; exact lies_nil _,rfl⟩
  ·obtain ⟨b,off,c',us',e,hP⟩:=hm.2 hn
   injection e with e1 e2 e3
   subst e1
   have hl:=hP.lies
   rw [List.append_nil] at hl
   refine ⟨h0,us',F2,⟨_,c,rfl,h1,h2,?_,fun _=>⟨b,off,rfl,hP.lt,hP.range⟩⟩,hl,rfl⟩
   rw [hl.len,mkc_len,← h5.len,h3]
 ·rcases Nat.eq_zero_or_pos n with rfl | hn
  ·rw [Lie] at h
   obtain ⟨h0,us,F3,⟨A,c,rfl,h1,h2,h3,h4⟩,h5,h6⟩:=h
   have hc:cs = []:=List.eq_nil_of_length_eq_zero (by rw [← h5.len,h3]; omega)
   subst hc
   rw [Lies] at h5
   obtain ⟨rfl,rfl⟩:=h5
   have:=List.append_cancel_left h6
   subst this
   rw [blk_none]
   intro g hg
   cases hg
  ·obtain ⟨b,off,c',us',e,hP⟩:=hm.2 hn
   subst e
   rw [blk_some hn]
   exact hP.live
theorem MarkL.round {w:World} {v:Value} {s:Int} {F2:List Nat} {n b off c:Nat} {A B:List Cel} {us:List Value} {wr:World} (hn:0 < n) (hv:v=.slice (some ⟨b,off,none⟩) n c) (h:MarkP w b off s F2 A B us wr):MarkL w v s F2 n A B wr :=
 ⟨by rw [hv,blk_some hn]; exact h.but,fun _=>⟨b,off,c,us,hv,h⟩⟩
/-- By value: the cells A are marked, the cells B not yet. -/
structure MarkV (w:World) (s:Int) (F:List Nat) (A B:List Cel) (us:List Value) (wr:World):Prop where
 lies:Lies wr (mkc0 A s++B) us F
 live:Live wr F
 nodup:F.Nodup
 but:But F w wr
theorem MarkV.num {w:World} {s:Int} {F:List Nat} {A B:List Cel} {k:IntKind} {x:Int} {us:List Value} {wr:World} (h:MarkV w s F A (.num k x :: B) us wr):MarkV w s F (A++[.num k x]) B us wr :=
 ⟨by rw [mkc0_app,mkc0,mkc0,Cel.mk0,List.append_assoc]; exact h.lies,h.live,h.nodup,h.but⟩
theorem MarkV.flag {w:World} {s:Int} {F:List Nat} {A B:List Cel} {x:Bool} {us:List Value} {wr:World} (h:MarkV w s F A (.flag x :: B) us wr):MarkV w s F (A++[.flag x]) B us wr :=
 ⟨by rw [mkc0_app,mkc0,mkc0,Cel.mk0,List.append_assoc]; exact h.lies,h.live,h.nodup,h.but⟩
theorem MarkV.call {w:World} {s:Int} {F:List Nat} {A B:List Cel} {sz n:Nat} {cs:List Cel} {us:List Value} {wr:World} (h:MarkV w s F A (.seq sz n cs :: B) us wr) {p:Nat} (hp:p=A.length) {v:Value} (hv:us[p]? = some v) {y:Int} (hy:y=s + cnts0 A) :
  ∃ Fc,(∀ g∈Fc,g∈F)∧Lie wr (.seq sz n cs) v Fc∧Fc.Nodup∧Live wr Fc ∧
   ∀ W,Lie W ((Cel.seq sz n cs).mk y) v Fc→Live W Fc→But Fc wr W→MarkV w s F (A++[.seq sz n cs]) B us W:=by
 subst hp hy
 obtain ⟨ua,ub,Fa,Fb,e2,e1,h1,h2⟩:=h.lies.parts
 rw [Lies] at h2
 obtain ⟨v',r,Fc,Fd,rfl,rfl,h2,h3⟩:=h2
 have hl:ua.length=A.length:=by
  rw [h1.len]
  clear h h1 e2 hv
  induction A generalizing s with
  | nil=>rfl
  | cons c A ih=>simp [mkc0,ih]
 have hv2:v' = v:=by
  rw [e2,← hl] at hv
  simpa using hv
 subst hv2
 have hnd2:=h.nodup
 rw [e1] at hnd2
 obtain ⟨n1,n2,n3⟩:=List.nodup_append.1 hnd2
 obtain ⟨n4,n5,n6⟩:=List.nodup_append.1 n2
 have hcF:∀ g∈Fc,g∈F:=fun g hg=>by rw [e1]; simp [hg]
 refine ⟨Fc,hcF,h2,n4,fun g hg=>h.live g (hcF g hg),fun W hlw hvw hb=>⟨?_,?_,h.nodup,h.but.trans (hb.mono hcF)⟩⟩
 ·rw [mkc0_app,mkc0,mkc0,List.append_assoc,List.singleton_append,e1,e2]
  refine (h1.but hb fun g hg hc=>n3 g hg g (List.mem_append.2 (.inl hc)) rfl).append ?_
  exact lies_cons hlw (h3.but hb fun g hg hc=>n6 g hc g hg rfl)
 ·intro g hg
  by_cases hc:g∈Fc
  ·exact hvw g hc
  ·obtain ⟨cur,e,fz,he,hf⟩:=h.live g hg
   exact ⟨cur,e,fz,(hb.block g ((Array.getElem?_eq_some_iff.1 he).1) hc).trans he,hf⟩
/-! ### What the laws' helpers do -/
section
variable (P:Program)
def MarkC (f:FuncId) (c:Cel):Prop:=∀ (v:Value) (F:List Nat) (s:Int) (w:World),Lie w c v F→F.Nodup→Live w F→0≤s→s + c.cnt≤1099511627776 →
 Calls P f #[v,.int .i64 s] w fun e w'=>e=.returned (.int .i64 (s + c.cnt))∧Lie w' (c.mk s) v F∧Live w' F∧But F w w'
def MarkA (f:FuncId) (cs:List Cel):Prop:=∀ (us:List Value) (F:List Nat) (s:Int) (w:World),Lies w cs us F→F.Nodup→Live w F→0≤s→s + cnts0 cs≤1099511627776 →
 Calls P f #[.agg us.toArray,.int .i64 s] w fun e w'=>e=.returned (.int .i64 (s + cnts0 cs))∧Lies w' (mkc0 cs s) us F∧Live w' F∧But F w w'
def HeldC (f:FuncId) (c:Cel):Prop:=∀ (v:Value) (F:List Nat) (s:Int) (w:World),Lie w (c.mk s) v F→0≤s→s + c.cnt≤1099511627776 →
 Calls P f #[v,.int .i64 s] w fun e w'=>e=.returned (.int .i64 (s + c.cnt))∧Below w.heap.size w w'
def EqC (f:FuncId) (c:Cel):Prop:=∀ (v1 v2:Value) (F1 F2:List Nat) (w:World),Lie w c v1 F1→Lie w c v2 F2 →
 Calls P f #[v1,v2] w fun e w'=>e=.returned (.bool true)∧Below w.heap.size w w'
def EqA (f:FuncId) (cs:List Cel):Prop:=∀ (us1 us2:List Value) (F1 F2:List Nat) (w:World),Lies w cs us1 F1→Lies w cs us2 F2 →
 Calls P f #[.agg us1.toArray,.agg us2.toArray] w fun e w'=>e=.returned (.bool true)∧Below w.heap.size w w'
def SzC (f:FuncId) (c:Cel):Prop:=∀ (v:Value) (F:List Nat) (left:Int) (w:World),Lie w c v F→0≤left→left≤1048576 →
 Calls P f #[v,.int .i64 left] w fun e w'=>e=.returned (.int .i64 (lft left c.bulk))∧Below w.heap.size w w'
def SzA (f:FuncId) (cs:List Cel):Prop:=∀ (us:List Value) (F:List Nat) (left:Int) (w:World),Lies w cs us F→0≤left→left≤1048576 →
 Calls P f #[.agg us.toArray,.int .i64 left] w fun e w'=>e=.returned (.int .i64 (lft left (bulks cs)))∧Below w.heap.size w w'
def ToC (f:FuncId) (c:Cel):Prop:=∀ (v:Value) (F:List Nat) (w:World),Lie w c v F→c.bulk≤1048576 →
 Calls P f #[v] w fun e w'=>∃ v' F',e=.returned v'∧Lie w' c v' F'∧Fresh w.heap.size w' F'∧Below w.heap.size w w'
def ToA (f:FuncId) (cs:List Cel):Prop:=∀ (us:List Value) (F:List Nat) (w:World),Lies w cs us F→bulks cs≤1048576 →
 Calls P f #[.agg us.toArray] w fun e w'=>∃ us' F',e=.returned (.agg us'.toArray)∧Lies w' cs us' F'∧Fresh w.heap.size w' F'∧Below w.heap.size w w'
end
/-! ### The round of a reading loop -/
theorem Lies.cell {w:World} {A B:List Cel} {c:Cel} {us:List Value} {F:List Nat} (h:Lies w (A++c :: B) us F) {p:Nat} (hp:p=A.length):∃ v Fc,us[p]? = some v∧Lie w c v Fc:=by
 subst hp
 obtain ⟨ua,ub,Fa,Fb,e1,e2,h1,h2⟩:=h.parts
 rw [Lies] at h2
 obtain ⟨v,r,Fc,Fd,rfl,rfl,h3,h4⟩:=h2
 exact ⟨v,Fc,by rw [e1,← h1.len]; simp,h3⟩
theorem Lies.mid {w:World} {A M B:List Cel} {us:List Value} {F:List Nat} (h:Lies w (A++(M++B)) us F) {p n:Nat} (hp:p=A.length) (hn:n=M.length):∃ Fc,Lies w M ((us.drop p).take n) Fc:=by
 subst hp hn
 obtain ⟨ua,ub,Fa,Fb,e1,e2,h1,h2⟩:=h.parts
 obtain ⟨uc,ud,Fc,Fd,e3,e4,h3,h4⟩:=h2.parts
 refine ⟨Fc,?_⟩
 have:(us.drop A.length).take M.length=uc:=by rw [e1,← h1.len,e3,← h3.len]; simp
 rw [this]
 exact h3
theorem rangeAt_mid {w:World} {b off:Nat} {us:List Value} (h:w.rangeAt b off us) (p n:Nat):w.rangeAt b (off + p) ((us.drop p).take n):=fun j v hv=>by
 rw [Nat.add_assoc]
 refine h (p + j) v ?_
 rw [List.getElem?_take] at hv
 split at hv
 ·rwa [List.getElem?_drop] at hv
 ·cases hv
/-- The marks are being found again: the cells A are past. -/
structure HeldP (b off:Nat) (s:Int) (F:List Nat) (A B:List Cel) (us:List Value) (wr:World):Prop where
 lies:Lies wr (mkc (A++B) s) us F
 range:wr.rangeAt b off us
 lt:b < wr.heap.size
theorem HeldP.next {b off:Nat} {s:Int} {F:List Nat} {A B:List Cel} {c:Cel} {us:List Value} {wr:World} (h:HeldP b off s F A (c :: B) us wr):HeldP b off s F (A++[c]) B us wr :=
 ⟨by rw [List.append_assoc]; exact h.lies,h.range,h.lt⟩
theorem HeldP.step {b off:Nat} {s:Int} {F:List Nat} {A B:List Cel} {us:List Value} {wr W:World} (h:HeldP b off s F A B us wr) (hb:Below wr.heap.size wr W):HeldP b off s F A B us W :=
 ⟨h.lies.step hb,fun j v hv=>(hb.cell (p:=⟨b,off + j,none⟩) h.lt).trans (h.range j v hv),Nat.lt_of_lt_of_le h.lt hb.size⟩
theorem HeldP.call {b off:Nat} {s:Int} {F:List Nat} {A B:List Cel} {c:Cel} {us:List Value} {wr:World} (h:HeldP b off s F A (c :: B) us wr) {p:Nat} (hp:p=A.length) {y:Int} (hy:y=s + cnts A) :
  ∃ v Fc,wr.cell? ⟨b,off + p,none⟩=some v∧Lie wr (c.mk y) v Fc:=by
 subst hy
 have h1:=h.lies
 rw [mkc_app,mkc] at h1
 obtain ⟨v,Fc,h2,h3⟩:=h1.cell (p:=p) (by rw [mkc_len]; exact hp)
 exact ⟨v,Fc,h.range p v h2,h3⟩
theorem HeldP.num {b off:Nat} {s:Int} {F:List Nat} {A B:List Cel} {k:IntKind} {x:Int} {us:List Value} {wr:World} (h:HeldP b off s F A (.num k x :: B) us wr) {p:Nat} (hp:p=A.length) {y:Int} (hy:y=mk1 k (s + cnts A)) :
  wr.cell? ⟨b,off + p,none⟩=some (.int k y):=by
 obtain ⟨v,Fc,h1,h2⟩:=h.call hp rfl
 rw [Cel.mk,Lie,← hy] at h2
 rw [h1,h2.1]
theorem HeldP.flag {b off:Nat} {s:Int} {F:List Nat} {A B:List Cel} {x:Bool} {us:List Value} {wr:World} (h:HeldP b off s F A (.flag x :: B) us wr) {p:Nat} (hp:p=A.length) {y:Bool} (hy:y=((s + cnts A) % 3 == 0)) :
  wr.cell? ⟨b,off + p,none⟩=some (.bool y):=by
 obtain ⟨v,Fc,h1,h2⟩:=h.call hp rfl
 rw [Cel.mk,Lie,← hy] at h2
 rw [h1,h2.1]
def HeldL (w:World) (v:Value) (s:Int) (F2:List Nat) (n:Nat) (A B:List Cel) (wr:World):Prop :=
 Below w.heap.size w wr∧(0 < n→∃ b off c us,v=.slice (some ⟨b,off,none⟩) n c∧HeldP b off s F2 A B us wr)
theorem HeldL.start {w:World} {sz n:Nat} {cs:List Cel} {v:Value} {F:List Nat} {s:Int} (h:Lie w ((Cel.seq sz n cs).mk s) v F):∃ F2,HeldL w v s F2 n [] cs w:=by
 rw [Cel.mk,Lie] at h
 obtain ⟨_,us,F2,⟨A,c,rfl,h1,h2,h3,h4⟩,h5,rfl⟩:=h
 refine ⟨F2,Below.refl _ _,fun hn=>?_⟩
 obtain ⟨b,off,rfl,hb,hr⟩:=h4 hn
 exact ⟨b,off,c,us,rfl,h5,hr,hb⟩
theorem HeldL.round {w:World} {v:Value} {s:Int} {F2:List Nat} {n b off c:Nat} {A B:List Cel} {us:List Value} {wr:World} (hv:v=.slice (some ⟨b,off,none⟩) n c) (h:HeldP b off s F2 A B us wr) (hb:Below w.heap.size w wr):HeldL w v s F2 n A B wr :=
 ⟨hb,fun _=>⟨b,off,c,us,hv,h⟩⟩
theorem Lie.form {w:World} {sz n:Nat} {cs:List Cel} {v:Value} {F:List Nat} (h:Lie w (.seq sz n cs) v F):∃ A c,v=.slice A n c∧n≤c∧c≤maxLen:=by
 rw [Lie] at h
 obtain ⟨_,us,F2,⟨A,c,e,h1,h2,_⟩,_⟩:=h
 exact ⟨A,c,e,h1,h2⟩
/-! ### Cells that are read -/
structure ReadP (b off:Nat) (cs:List Cel) (us:List Value) (F:List Nat) (wr:World):Prop where
 lies:Lies wr cs us F
 range:wr.rangeAt b off us
 lt:b < wr.heap.size
theorem ReadP.step {b off:Nat} {cs:List Cel} {us:List Value} {F:List Nat} {wr W:World} (h:ReadP b off cs us F wr) (hb:Below wr.heap.size wr W):ReadP b off cs us F W :=
 ⟨h.lies.step hb,fun j v hv=>(hb.cell (p:=⟨b,off + j,none⟩) h.lt).trans (h.range j v hv),Nat.lt_of_lt_of_le h.lt hb.size⟩
theorem ReadP.cell {b off:Nat} {A B:List Cel} {c:Cel} {us:List Value} {F:List Nat} {wr:World} (h:ReadP b off (A++c :: B) us F wr) {p:Nat} (hp:p=A.length):∃ v Fc,wr.cell? ⟨b,off + p,none⟩=some v∧Lie wr c v Fc:=by
 obtain ⟨v,Fc,h1,h2⟩:=h.lies.cell hp
 exact ⟨v,Fc,h.range p v h1,h2⟩
theorem ReadP.mid {b off:Nat} {A M B:List Cel} {us:List Value} {F:List Nat} {wr:World} (h:ReadP b off (A++(M++B)) us F wr) {p n:Nat} (hp:p=A.length) (hn:M.length=n) :
  ∃ xs Fc,xs.length=n∧wr.rangeAt b (off + p) xs∧Lies wr M xs Fc:=by
 obtain ⟨Fc,h1⟩:=h.lies.mid hp hn.symm
 exact ⟨_,Fc,by rw [h1.len,hn],rangeAt_mid h.range p n,h1⟩
theorem Lie.read {w:World} {sz n:Nat} {cs:List Cel} {v:Value} {F:List Nat} (h:Lie w (.seq sz n cs) v F) :
  ∃ A c,v=.slice A n c∧n≤c∧c≤maxLen∧(0 < n→∃ b off us F2,A=some ⟨b,off,none⟩∧ReadP b off cs us F2 w):=by
 rw [Lie] at h
 obtain ⟨_,us,F2,⟨A,c,e,h1,h2,h3,h4⟩,h5,_⟩:=h
 refine ⟨A,c,e,h1,h2,fun hn=>?_⟩
 obtain ⟨b,off,e2,hb,hr⟩:=h4 hn
 exact ⟨b,off,us,F2,e2,h5,hr,hb⟩
theorem Lie.sz {w:World} {sz n:Nat} {cs:List Cel} {v:Value} {F:List Nat} (h:Lie w (.seq sz n cs) v F):sz≤64∧cs.length=n * sz:=by
 rw [Lie] at h
 obtain ⟨h0,us,F2,⟨A,c,e,h1,h2,h3,h4⟩,h5,_⟩:=h
 exact ⟨h0,by rw [← h5.len,h3]⟩
/-! ### A struct in a block of its own -/
def Box (w:World) (g:Nat) (t:TypeId) (us:List Value):Prop:=w.heap[g]? = some (.cells us.toArray t (0,0))
section
variable {w w' : World} {g:Nat} {t:TypeId} {us:List Value}
theorem Box.lt (h:Box w g t us):g < w.heap.size:=(Array.getElem?_eq_some_iff.1 h).1
theorem Box.cell (h:Box w g t us) {j:Nat} {u:Value} (hu:us[j]? = some u):w.cell? ⟨g,j,none⟩=some u:=by
 rw [cell_of_row w g j _ _ (0,0) h]
 simpa using hu
theorem Box.fz (h:Box w g t us) (j:Nat):w.frozen? ⟨g,j,none⟩=false:=frozen_of_row w g j _ _ h
theorem Box.step (h:Box w g t us) (hb:Below w.heap.size w w'):Box w' g t us:=(hb.block g h.lt).trans h
theorem Box.keep (h:Box w g t us) (hb:w'.heap[g]? = w.heap[g]?):Box w' g t us:=hb.trans h
theorem Box.set (h:Box w g t us) (j:Nat) (x:Value):Box (w.setCell ⟨g,j,none⟩ x) g t (us.set j x):=by
 have:=heap_setCell_same w g j _ _ x h
 rw [Box,this]
 simp
theorem Box.range (h:Box w g t us):w.rangeAt g 0 us:=fun j v hv=>by
 rw [Nat.zero_add]
 exact h.cell hv
theorem Box.mid (h:Box w g t us) (p n:Nat):w.rangeAt g p ((us.drop p).take n):=fun j v hv=>by
 refine h.cell ?_
 rw [List.getElem?_take] at hv
 split at hv
 ·rwa [List.getElem?_drop] at hv
 ·cases hv
theorem Box.there (h:Box w g t us) {o n:Nat} (hn:o + n≤us.length):w.there g o n:=fun j hj=>by
 refine ⟨?_,h.fz _⟩
 have:us[o + j]? = some us[o + j]:=List.getElem?_eq_getElem (by omega)
 rw [h.cell this]
 rfl
theorem Box.new (w:World) (us:List Value) (t:TypeId):Box (w.alloc (.cells us.toArray t)) w.heap.size t us:=heap_alloc_new w _
theorem Box.other (h:Box w g t us) (b j:Nat) (x:Value) (hne:g≠b):Box (w.setCell ⟨b,j,none⟩ x) g t us:=(Below.heap_setCell w ⟨b,j,none⟩ x g hne).trans h
end
/-- A list is written over from a place on. -/
def setList (xs:List Value):Nat→List Value→List Value
 | _,[]=>xs
 | o,v :: r=>setList (xs.set o v) (o + 1) r
theorem Box.sets {g:Nat} {t:TypeId} : ∀ {vs:List Value} {o:Nat} {w:World} {us:List Value},Box w g t us→Box (w.setCells g o vs) g t (setList us o vs)
 | [],o,w,us,h=>h
 | v :: r,o,w,us,h=>by
   rw [World.setCells,setList]
   exact Box.sets (h.set o v)
theorem setList_at (us zs vs:List Value) (o:Nat) (ho:o=us.length) (h:vs.length≤zs.length):setList (us++zs) o vs=us++vs++zs.drop vs.length:=by
 subst ho
 induction vs generalizing us zs with
 | nil=>simp [setList]
 | cons v r ih =>
   cases zs with
   | nil=>simp at h
   | cons z zs =>
     rw [setList]
     have e:(us++z :: zs).set us.length v=(us++[v])++zs:=by simp
     rw [e]
     have:=ih (us++[v]) zs (by simpa using h)
     rw [List.length_append] at this
     rw [show us.length + 1=us.length + [v].length by rfl,this]
     simp
theorem but_set (w:World) (g o:Nat) (v:Value):But [g] w (w.setCell ⟨g,o,none⟩ v):=⟨rfl,rfl,rfl,by simp,fun k hk hn=>Below.heap_setCell w ⟨g,o,none⟩ v k (fun e=>hn (List.mem_singleton.2 e))⟩
theorem but_sets (w:World) (g:Nat):∀ (vs:List Value) (o:Nat),But [g] w (w.setCells g o vs)
 | vs,o=>by
   induction vs generalizing o w with
   | nil=>exact But.refl _ _
   | cons v r ih =>
     rw [World.setCells]
     exact (but_set w g o v).trans (ih _ _)
theorem size_sets (g:Nat) (vs:List Value) (o:Nat) (w:World):(w.setCells g o vs).heap.size=w.heap.size:=by
 induction vs generalizing o w with
 | nil=>rfl
 | cons v r ih=>rw [World.setCells,ih]; simp
/-! ### A row that is filled -/
/-- The block g of the row: us, then what was there. -/
structure CopyP (w:World) (g:Nat) (e:TypeId) (tot:Nat) (A:List Cel) (us:List Value) (F:List Nat) (wr:World):Prop where
 row:∃ zs,Box wr g e (us++zs)∧(us++zs).length=tot
 lies:Lies wr A us F
 fresh:Fresh (g + 1) wr F
 below:Below w.heap.size w wr
 low:w.heap.size≤g
theorem CopyP.start {w w1:World} {g:Nat} {e:TypeId} {tot:Nat} {zs:List Value} (hb:Box w1 g e zs) (hl:zs.length=tot) (bel:Below w.heap.size w w1) (hg:w.heap.size≤g):CopyP w g e tot [] [] [] w1 :=
 ⟨⟨zs,hb,hl⟩,lies_nil _,Fresh.nil _ _,bel,hg⟩
/-- Behind the call that made the element. -/
theorem CopyP.put {w wr w2:World} {g:Nat} {e:TypeId} {tot:Nat} {A M:List Cel} {us vs:List Value} {F F2:List Nat} (h:CopyP w g e tot A us F wr) (hb:Below wr.heap.size wr w2) (hl:Lies w2 M vs F2) (hf:Fresh wr.heap.size w2 F2)
  {p:Nat} (hp:p=A.length) (ht:A.length + M.length≤tot) :
  w2.there g p vs.length∧CopyP w g e tot (A++M) (us++vs) (F++F2) (w2.setCells g p vs):=by
 obtain ⟨⟨zs,h1,h2⟩,h3,h4,h5,h6⟩:=h
 have hu:us.length=p:=by rw [h3.len,hp]
 have hv:vs.length=M.length:=hl.len
 have hgl:=h1.lt
 have b2:=h1.step hb
 rw [List.length_append] at h2
 have hset:Box (w2.setCells g p vs) g e (us++vs++zs.drop vs.length):=by
  rw [← setList_at us zs vs p hu.symm (by omega)]
  exact b2.sets
 have bs:=but_sets w2 g vs p
 have h4' : Fresh (g + 1) w2 (F++F2):=by
  refine (h4.step hb).app (hi:=wr.heap.size) (fun x hx=>h4.live.lt x hx) hf (by omega)
 have hd:∀ x∈F++F2,x∉[g]:=fun x hx he=>by
  have:=h4'.low x hx
  have:=List.mem_singleton.1 he
  omega
 refine ⟨b2.there (by rw [List.length_append]; omega),⟨⟨zs.drop vs.length,hset,by simp; omega⟩,?_,⟨h4'.nodup,h4'.low,h4'.live.but bs hd⟩,?_,h6⟩⟩
 ·exact ((h3.step hb).append hl).but bs hd
 ·exact bs.below (h5.trans (hb.mono (by omega))) (fun x hx=>by rw [List.mem_singleton.1 hx]; exact h6) (by have:=h5.size; have:=hb.size; omega)
theorem CopyP.stop {w wr:World} {g:Nat} {e:TypeId} {n sz:Nat} {A:List Cel} {us:List Value} {F:List Nat} (h:CopyP w g e (n * sz) A us F wr) (hA:A.length=n * sz) (h64:sz≤64) (hn:n≤maxLen) :
  ∃ F',Lie wr (.seq sz n A) (.slice (some ⟨g,0,none⟩) n n) F'∧Fresh w.heap.size wr F'∧Below w.heap.size w wr:=by
 obtain ⟨⟨zs,h1,h2⟩,h3,h4,h5,h6⟩:=h
 have hz:zs = []:=List.eq_nil_of_length_eq_zero (by rw [List.length_append,h3.len,hA] at h2; omega)
 subst hz
 rw [List.append_nil] at h1 h2
 refine ⟨blk (.slice (some ⟨g,0,none⟩) n n)++F,?_,?_,h5⟩
 ·rw [Lie]
  exact ⟨h64,us,F,⟨_,n,rfl,Nat.le_refl _,hn,h2,fun _=>⟨g,0,rfl,h1.lt,h1.range⟩⟩,h3,rfl⟩
 ·rcases Nat.eq_zero_or_pos n with rfl | hp
  ·rw [blk_none]
   exact h4.base (by omega)
  ·rw [blk_some hp]
   refine ⟨List.nodup_cons.2 ⟨fun hg=>by have:=h4.low g hg; omega,h4.nodup⟩,fun x hx=>?_,fun x hx=>?_⟩
   ·rcases List.mem_cons.1 hx with rfl | hx
    ·exact h6
    ·have:=h4.low x hx; omega
   ·rcases List.mem_cons.1 hx with rfl | hx
    ·exact LiveAt.of h1
    ·exact h4.live x hx
/-! ### Guards -/
theorem at_load (ty:TypeId) {P:Program} {ops:Array Oper} {rest:List Oper} {d:Option Tmp} {x:Operand} {t:TypeId} {pos:String} {after:Array Edge} {guard:Option (Tmp × Bool)} {a:Act} {w:World} {Q:Exit→Act→World→Prop}
  (h:wpList P ops Q (⟨d,.load ty x,t,pos,after,guard⟩ :: rest) a w):wpList P ops Q (⟨d,.load ty x,t,pos,after,guard⟩ :: rest) a w:=h
theorem at_store (ty:TypeId) {P:Program} {ops:Array Oper} {rest:List Oper} {d:Option Tmp} {x y:Operand} {t:TypeId} {pos:String} {after:Array Edge} {guard:Option (Tmp × Bool)} {a:Act} {w:World} {Q:Exit→Act→World→Prop}
  (h:wpList P ops Q (⟨d,.store ty x y,t,pos,after,guard⟩ :: rest) a w):wpList P ops Q (⟨d,.store ty x y,t,pos,after,guard⟩ :: rest) a w:=h
/-- Cells read in a region of which only the tail writes. -/
theorem wpStill_load_rng {P:Program} {ops:Array Oper} {rest:List Oper} {o:Oper} {a:Act} {w:World} {K:Act→Prop} (hgd:o.guard=none) (ty:TypeId) (x:Operand) (ho:o.op=.load ty x)
  (b off:Nat) (hx:a.eval x=.pointer (some ⟨b,off,none⟩)) (cs:List Value) (d:TypeDesc) (hc:w.rangeAt b off cs)
  (hu:P.underlying ty=some d) (hd:d.isRow=true) (hi:(P.info? ty).map (·.size)=some cs.length)
  (h:wpStill P ops w K rest (a.put o.dst (.agg cs.toArray))):wpStill P ops w K (o :: rest) a:=by
 refine wpStill_step fun L hL=>?_
 have hw:Region.wanted o (yielded ops a.tmps)=true:=by simp [Region.wanted,hgd]
 rw [if_pos hw]
 unfold Oper.still execOp
 simp only [ho,hx,Instr.loadAt,Instr.sureAddr,Sem.run_bind,Sem.run_pure,Result.andThen_ok,run_loadVar_mid w b off ty cs d hc hu hd hi,Oper.stillUpon]
 exact ⟨trivial,hL _ h⟩
end Go.Proofs.YtgaadpkefncnmaaGreatDoor
/-
  PutNum: the model and the program write the same bytes.
-/
namespace Go.Proofs.YtgaadpkefncnmaaGreatDoor
open Go.RowKit
/-- The bytes of a number, the lowest seven bits first. -/
def vint (n:Nat):List Int:=if n < 128 then [(n:Int)] else ((n:Int) % 128 + 128) :: vint (n / 128)
theorem vint_last {n:Nat} (h:n < 128):vint n = [(n:Int)]:=by rw [vint,if_pos h]
theorem vint_more {n:Nat} (h:¬ n < 128):vint n=((n:Int) % 128 + 128) :: vint (n / 128):=by rw [vint,if_neg h]
theorem vint_byt (n:Nat):Byt (vint n):=by
 induction n using Nat.strongRecOn with
 | _ n ih =>
   by_cases h:n < 128
   ·rw [vint_last h]
    exact Byt.one (by omega) (by omega)
   ·rw [vint_more h]
    intro x hx
    rcases List.mem_cons.1 hx with rfl | hx
    ·omega
    ·exact ih (n / 128) (by omega) x hx
/-- What PutNum answers. -/
def putNum (l:List Int) (n:Int):List Int:=if n < 0∨2147483647 < n then l else l++vint n.toNat
theorem putNum_byt {l:List Int} (h:Byt l) (n:Int):Byt (putNum l n):=by
 unfold putNum
 split
 ·exact h
 ·exact h.app (vint_byt _)
theorem vint_len (n:Nat) (h:n≤2147483647):(vint n).length≤5:=by
 by_cases h1:n < 128
 ·rw [vint_last h1]; simp
 by_cases h2:n / 128 < 128
 ·rw [vint_more h1,vint_last h2]; simp
 by_cases h3:n / 128 / 128 < 128
 ·rw [vint_more h1,vint_more h2,vint_last h3]; simp
 by_cases h4:n / 128 / 128 / 128 < 128
 ·rw [vint_more h1,vint_more h2,vint_more h3,vint_last h4]; simp
 have h5:n / 128 / 128 / 128 / 128 < 128:=by omega
 rw [vint_more h1,vint_more h2,vint_more h3,vint_more h4,vint_last h5]; simp
theorem vint_step {xs l:List Int} {m n:Nat} (h:¬ m < 128) (hx:xs++vint m=l++vint n):(xs++[(m:Int) % 128 + 128])++vint (m / 128)=l++vint n:=by
 rw [vint_more h] at hx
 rw [← hx]
 simp
theorem vint_room {xs l:List Int} {m n:Nat} (hn:n≤2147483647) (hx:xs++vint m=l++vint n):xs.length≤l.length + 5:=by
 have:=congrArg List.length hx
 have h5:=vint_len n hn
 simp at this
 omega
set_option maxRecDepth 20000 in
set_option maxHeartbeats 800000 in
theorem specPutNumOut (l:List Int) (v:Value) (n:Int) (w:World) (hv:Rd w v (bs l)) (hl:l.length≤1099511627776) (hn:n < 0∨2147483647 < n) :
  Calls Tryz.prog 211 #[v,.int .i64 n] w fun e w'=>∃ v',e=.returned v'∧Own 5 w.heap.size w'.heap.size w' v' (bs l)∧Below w.heap.size w w':=by
 obtain ⟨i0,hi0,hz0,hz1,hz2⟩:=info_parts u8info
 obtain ⟨A,c,hV,_,_,_⟩:=id hv
 rw [bs_length] at *
 subst hV
 have HV:=hide hv
 clear hv
 by_cases h0:n < 0
 all_goals
  go_enter Tryz.func211,Tryz.ntmps211
  go_wp2_with (at_builtin; refine wpList_app _ rfl (.tmp 6) (.tmp 7) _ rfl w.heap.size 5 i0 _ 1 Tryz.underlying39 hi0 hz0 hz1 hz2 rfl _ 0 [] rfl (own_lit0 w _) _ (bs l) rfl (HV.out.alloc _) (bs_one l) (by rw [bs_length]; simp only [maxLen]; omega) (by rw [bs_length]; omega) (by simp) ?_; intro v1 w1 own1 gr1)
  go_ret
  exact ⟨_,rfl,Own.of (own_cells own1 (List.nil_append _)) (by simp),below_app0 gr1⟩
set_option maxRecDepth 20000 in
set_option maxHeartbeats 800000 in
theorem specPutNumIn (l:List Int) (v:Value) (n:Nat) (w:World) (hv:Rd w v (bs l)) (hl:l.length≤1099511627776) (hn:n≤2147483647) :
  Calls Tryz.prog 211 #[v,.int .i64 n] w fun e w'=>∃ v',e=.returned v'∧Own 5 w.heap.size w'.heap.size w' v' (bs (l++vint n))∧Below w.heap.size w w':=by
 obtain ⟨i0,hi0,hz0,hz1,hz2⟩:=info_parts u8info
 obtain ⟨A,c,hV,_,_,_⟩:=id hv
 rw [bs_length] at *
 subst hV
 have HV:=hide hv
 clear hv
 go_enter Tryz.func211,Tryz.ntmps211
 go_wp2_with (at_builtin; refine wpList_app _ rfl (.tmp 6) (.tmp 7) _ rfl w.heap.size 5 i0 _ 1 Tryz.underlying39 hi0 hz0 hz1 hz2 rfl _ 0 [] rfl (own_lit0 w _) _ (bs l) rfl (HV.out.alloc _) (bs_one l) (by rw [bs_length]; simp only [maxLen]; omega) (by rw [bs_length]; omega) (by simp) ?_; intro v1 w1 own1 gr1)
 have c1:Below w.heap.size w w1:=below_app0 gr1
 have own2:w1.ownsRow w.heap.size 5 1 v1 l.length (bs l):=own_len (own_cells own1 (List.nil_append _)) (by rw [bs_length]; omega)
 clear own1 gr1
 go_loopw [1,5] (fun t v wr=>∃ (m:Nat) (xs:List Int),m≤2147483647∧t=.int .i64 m∧wr.ownsRow w.heap.size 5 1 v xs.length (bs xs)∧Hid (xs++vint m=l++vint n)∧Below w.heap.size w wr)
  (fun t _ _=>(intOf t).toNat)
 case atStart=>exact ⟨n,l,hn,rfl,own2,hide rfl,c1⟩
 case round =>
  obtain ⟨m,xs,hm,rfl,hown,hx,hbel⟩:=hrel
  have hroom:=vint_room hn hx.out
  by_cases h128:m < 128
  ·go_wp2_with (at_builtin; refine wpList_app _ rfl (.tmp 27) (.tmp 30) _ rfl w.heap.size 5 i0 _ 1 Tryz.underlying39 hi0 hz0 hz1 hz2 rfl _ _ _ rfl (hown.alloc _) _ _ rfl (rd_one _ _ _) (bs_one _) (by rw [bs_length]; simp only [maxLen,List.length_singleton]; omega) (by rw [bs_length]; simp only [List.length_singleton]; omega) (by have:=hbel.size; simp; omega) ?_; intro v3 w3 own3 gr3)
   go_ret
   refine ⟨_,rfl,Own.of (own_cells own3 ?_) (by rw [bs_length,← hx.out,vint_last h128]; simp [bs]),?_⟩
   ·rw [← bs_append,← hx.out,vint_last h128]
   ·exact Below.row (hbel.alloc hbel.size _) (by have:=hbel.size; simp; omega) (hown.alloc _) gr3
  ·go_wp2_with (at_builtin; refine wpList_app _ rfl (.tmp 18) (.tmp 23) _ rfl w.heap.size 5 i0 _ 1 Tryz.underlying39 hi0 hz0 hz1 hz2 rfl _ _ _ rfl (hown.alloc _) _ _ rfl (rd_one _ _ _) (bs_one _) (by rw [bs_length]; simp only [maxLen,List.length_singleton]; omega) (by rw [bs_length]; simp only [List.length_singleton]; omega) (by have:=hbel.size; simp; omega) ?_; intro v3 w3 own3 gr3)
   go_roundw
   case rel=>exact ⟨m / 128,xs++[(m:Int) % 128 + 128],by omega,by go_num,own_len (own_cells own3 (bs_append _ _).symm) (by simp [bs]),hide (vint_step h128 hx.out),Below.row (hbel.alloc hbel.size _) (by have:=hbel.size; simp; omega) (hown.alloc _) gr3⟩
   case measure=>simp [intOf]; omega
end Go.Proofs.YtgaadpkefncnmaaGreatDoor
/-
  Trees: as they are, and as they lie in memory.
-/
namespace Go.Proofs.YtgaadpkefncnmaaGreatDoor
open Go.RowKit
set_option linter.unusedVariables false
inductive T where
 | node (k:Int) (d:List Int) (ns:List (List Int)) (ks:List T)
def T.kind:T→Int | .node k _ _ _=>k
def T.data:T→List Int | .node _ d _ _=>d
def T.names:T→List (List Int) | .node _ _ ns _=>ns
def T.kids:T→List T | .node _ _ _ ks=>ks
theorem T.ind {P:T→Prop} (h:∀ k d ns ks,(∀ t∈ks,P t)→P (.node k d ns ks)):∀ t,P t
 | .node k d ns ks=>h k d ns ks fun t ht=>T.ind h t
termination_by t=>SizeOf.sizeOf t
decreasing_by
 have:=List.sizeOf_lt_of_mem ht
 simp
 omega
/-- The four cells of a tree. -/
structure Q where
 k:Int
 d:Value
 n:Value
 c:Value
@[reducible] def Q.val (q:Q):Value:=.agg #[.int .i64 q.k,q.d,q.n,q.c]
/-- A slice whose elements are trees' cells. -/
def Rd4 (w:World) (v:Value) (qs:List Q):Prop :=
 ∃ A c,v=.slice A qs.length c∧qs.length≤c∧c≤maxLen ∧
  (0 < qs.length→∃ b off,A=some ⟨b,off,none⟩∧b < w.heap.size∧∀ i q,qs[i]? = some q →
   w.cell? ⟨b,off + 4 * i,none⟩=some (.int .i64 q.k)∧w.cell? ⟨b,off + (4 * i + 1),none⟩=some q.d∧w.cell? ⟨b,off + (4 * i + 2),none⟩=some q.n∧w.cell? ⟨b,off + (4 * i + 3),none⟩=some q.c)
theorem Rd4.below {w w' : World} {v:Value} {qs:List Q} (h:Rd4 w v qs) (hb:Below w.heap.size w w'):Rd4 w' v qs:=by
 obtain ⟨A,c,rfl,h1,h2,h3⟩:=h
 refine ⟨A,c,rfl,h1,h2,fun hp=>?_⟩
 obtain ⟨b,off,rfl,hlt,hc⟩:=h3 hp
 refine ⟨b,off,rfl,Nat.lt_of_lt_of_le hlt hb.size,fun i q hq=>?_⟩
 obtain ⟨c0,c1,c2,c3⟩:=hc i q hq
 exact ⟨(hb.cell (p:=⟨b,off + 4 * i,none⟩) hlt).trans c0,(hb.cell (p:=⟨b,off + (4 * i + 1),none⟩) hlt).trans c1,(hb.cell (p:=⟨b,off + (4 * i + 2),none⟩) hlt).trans c2,(hb.cell (p:=⟨b,off + (4 * i + 3),none⟩) hlt).trans c3⟩
/-- A slice of slices of bytes. -/
def RdN (w:World) (v:Value) (ns:List (List Int)):Prop:=∃ vs:List Value,Rd w v vs∧vs.length=ns.length∧∀ i u,vs[i]? = some u→Rd w u (bs (ns.getD i []))
theorem RdN.below {w w' : World} {v:Value} {ns:List (List Int)} (h:RdN w v ns) (hb:Below w.heap.size w w'):RdN w' v ns:=by
 obtain ⟨vs,h1,h2,h3⟩:=h
 exact ⟨vs,h1.below hb,h2,fun i u hu=>(h3 i u hu).below hb⟩
mutual
/-- The cells q are those of the tree t. -/
def TIn (w:World):T→Q→Prop
 | .node k d ns ks,q=>q.k=k∧Rd w q.d (bs d)∧RdN w q.n ns∧∃ qs,Rd4 w q.c qs∧TIns w ks qs
def TIns (w:World):List T→List Q→Prop
 | [],qs=>qs = []
 | t :: ts,qs=>∃ q r,qs=q :: r∧TIn w t q∧TIns w ts r
end
theorem TIns.len {w:World} : ∀ {ts:List T} {qs:List Q},TIns w ts qs→qs.length=ts.length
 | [],qs,h=>by rw [TIns] at h; rw [h]; rfl
 | t :: ts,qs,h=>by
   rw [TIns] at h
   obtain ⟨q,r,rfl,_,hr⟩:=h
   simp [TIns.len hr]
theorem TIns.at_ {w:World} : ∀ {ts:List T} {qs:List Q},TIns w ts qs→∀ (i:Nat) (t:T),ts[i]? = some t→∃ q,qs[i]? = some q∧TIn w t q
 | [],_,_,i,t,ht=>by simp at ht
 | t0 :: ts,qs,h,i,t,ht=>by
   rw [TIns] at h
   obtain ⟨q,r,rfl,hq,hr⟩:=h
   cases i with
   | zero =>
     simp at ht
     subst ht
     exact ⟨q,rfl,hq⟩
   | succ i=>exact TIns.at_ hr i t (by simpa using ht)
theorem TIns.mk {w:World} : ∀ {ts:List T} {qs:List Q},qs.length=ts.length→(∀ (i:Nat) (t:T) (q:Q),ts[i]? = some t→qs[i]? = some q→TIn w t q)→TIns w ts qs
 | [],qs,h,_=>by rw [TIns]; exact List.eq_nil_of_length_eq_zero h
 | t :: ts,[],h,_=>by simp at h
 | t :: ts,q :: r,h,hh=>by
   rw [TIns]
   exact ⟨q,r,rfl,hh 0 t q rfl rfl,TIns.mk (by simpa using h) fun i t q h1 h2=>hh (i + 1) t q (by simpa using h1) (by simpa using h2)⟩
theorem TIn.below {w w' : World} (hb:Below w.heap.size w w'):∀ {t:T} {q:Q},TIn w t q→TIn w' t q:=by
 intro t
 induction t using T.ind with
 | h k d ns ks ih =>
   intro q h
   rw [TIn] at h ⊢
   obtain ⟨h1,h2,h3,qs,h4,h5⟩:=h
   refine ⟨h1,h2.below hb,h3.below hb,qs,h4.below hb,TIns.mk h5.len fun i t q h6 h7=>?_⟩
   obtain ⟨q',h8,h9⟩:=h5.at_ i t h6
   obtain rfl:q' = q:=Option.some.inj (h8.symm.trans h7)
   exact ih t (List.mem_of_getElem? h6) h9
/-- All numbers are bytes. -/
def BytN (ns:List (List Int)):Prop:=∀ n∈ns,Byt n
mutual
def T.Byts:T→Prop
 | .node _ d ns ks=>Byt d∧BytN ns∧T.Bytss ks
def T.Bytss:List T→Prop
 | []=>True
 | t :: ts=>t.Byts∧T.Bytss ts
end
theorem T.Bytss.mem:∀ {ts:List T},T.Bytss ts→∀ t∈ts,t.Byts
 | [],_,t,ht=>by cases ht
 | t0 :: ts,h,t,ht=>by
   rw [T.Bytss] at h
   rcases List.mem_cons.1 ht with rfl | ht
   ·exact h.1
   ·exact T.Bytss.mem h.2 t ht
def sumLen:List (List Int)→Nat
 | []=>0
 | n :: r=>n.length + sumLen r
mutual
/-- How many bytes, names and kids there are. -/
def T.bulk:T→Nat
 | .node _ d ns ks=>d.length + (ns.length + sumLen ns) + (ks.length + T.bulks ks)
def T.bulks:List T→Nat
 | []=>0
 | t :: ts=>t.bulk + T.bulks ts
end
theorem RdN.get {w:World} {A:Option Addr} {n c m:Nat} {ns:List (List Int)} (h:RdN w (.slice A n c) ns) (hm:m < ns.length):∃ b off u,A=some ⟨b,off,none⟩∧b < w.heap.size∧w.cell? ⟨b,off + m,none⟩=some u∧Rd w u (bs (ns.getD m [])):=by
 obtain ⟨vs,⟨A',c',e,_,_,h3⟩,hl,hvs⟩:=h
 injection e with e1 _ _
 obtain ⟨b,off,e2,hb,hc⟩:=h3 (by omega)
 have hv:m < vs.length:=by omega
 exact ⟨b,off,vs[m],e1.trans e2,hb,hc m _ (List.getElem?_eq_getElem hv),hvs m _ (List.getElem?_eq_getElem hv)⟩
theorem Rd4.range {w:World} {b off k:Nat} {q:Q} (h0:w.cell? ⟨b,off + 4 * k,none⟩=some (.int .i64 q.k)) (h1:w.cell? ⟨b,off + (4 * k + 1),none⟩=some q.d) (h2:w.cell? ⟨b,off + (4 * k + 2),none⟩=some q.n) (h3:w.cell? ⟨b,off + (4 * k + 3),none⟩=some q.c):w.rangeAt b (off + k * 4) [.int .i64 q.k,q.d,q.n,q.c]:=fun j v hv=>by
 rw [Nat.mul_comm k 4]
 match j,hv with
 | 0,hv=>simp at hv; subst hv; exact h0
 | 1,hv=>simp at hv; subst hv; exact h1
 | 2,hv=>simp at hv; subst hv; exact h2
 | 3,hv=>simp at hv; subst hv; exact h3
end Go.Proofs.YtgaadpkefncnmaaGreatDoor
/-
  bytes.Equal.
-/
namespace Go.Proofs.YtgaadpkefncnmaaGreatDoor
open Go.RowKit
set_option linter.unusedVariables false
theorem bytesEq (a n:List Int) (hA:Byt a) (hN:Byt n) (va vn:Value) (w:World) (ha:Rd w va (bs a)) (hn:Rd w vn (bs n)) :
  Calls Tryz.prog 157 #[va,vn] w fun e w'=>e=.returned (.bool (decide (a=n)))∧w' = w:=by
 have cv1:=conv_rd (P:=Tryz.prog) Tryz.underlying39 Tryz.underlying5 Tryz.underlying9 ha
 have cv2:=conv_rd (P:=Tryz.prog) Tryz.underlying39 Tryz.underlying5 Tryz.underlying9 hn
 have hp:((strOfNums a).toList == (strOfNums n).toList)=decide (a=n):=by
  by_cases h:a=n
  ·rw [h,decide_eq_true rfl]; simp
  ·rw [decide_eq_false h]
   simp only [beq_eq_false_iff_ne]
   exact fun e=>h (str_inj hA hN e)
 generalize strOfNums a=s1 at *
 generalize strOfNums n=s2 at *
 rw [← hp]
 clear hp ha hn
 go_enter Tryz.func157,Tryz.ntmps157
 go_wp2
 go_ret
 exact ⟨rfl,rfl⟩
end Go.Proofs.YtgaadpkefncnmaaGreatDoor
/-
  Trees as data.
-/
namespace Go.Proofs.YtgaadpkefncnmaaGreatDoor
open Go.RowKit
set_option linter.unusedVariables false
mutual
/-- A tree's four cells. -/
def T.cells:T→List Cel
 | .node k d ns ks=>[.num .i64 k,raw d,Go.Proofs.YtgaadpkefncnmaaGreatDoor.names ns,.seq 4 ks.length (T.cellss ks)]
def T.cellss:List T→List Cel
 | []=>[]
 | t :: ts=>t.cells++T.cellss ts
end
theorem T.cellss_eq:∀ ks:List T,T.cellss ks=Go.Proofs.YtgaadpkefncnmaaGreatDoor.cells T.cells ks
 | []=>by rw [T.cellss,Go.Proofs.YtgaadpkefncnmaaGreatDoor.cells]
 | t :: ks=>by rw [T.cellss,Go.Proofs.YtgaadpkefncnmaaGreatDoor.cells,T.cellss_eq ks]
theorem T.cells_eq (t:T):t.cells = [.num .i64 t.kind,raw t.data,Go.Proofs.YtgaadpkefncnmaaGreatDoor.names t.names,seqOf 4 T.cells t.kids]:=by
 obtain ⟨k,d,ns,ks⟩:=t
 rw [T.cells,T.cellss_eq]
 rfl
end Go.Proofs.YtgaadpkefncnmaaGreatDoor
/-
  Structs by value: their cells one after the other.
-/
namespace Go.Proofs.YtgaadpkefncnmaaGreatDoor
open Go.RowKit
set_option linter.unusedVariables false
theorem num_bulk (k:IntKind) (n:Int):(Cel.num k n).bulk=0:=rfl
theorem ret_i64 {x y:Int} (h:x=y):Ending.returned (.int .i64 x)=.returned (.int .i64 y):=by rw [h]
theorem bulks_nums (k:IntKind) (l:List Int):bulks (l.map (Cel.num k))=0:=by
 induction l with
 | nil=>rfl
 | cons x l ih=>rw [List.map_cons,bulks,ih]; rfl
theorem raw_bulk (l:List Int):(raw l).bulk=l.length:=by rw [raw,Cel.bulk,bulks_nums]; rfl
/-! ### The values of a struct's cells -/
theorem Lies.nums1 {w:World} {k:IntKind} {n:Int} {ds:List Cel} {us:List Value} {F:List Nat} (h:Lies w (.num k n :: ds) us F):∃ r G,us=.int k n :: r∧Lies w ds r G:=by
 rw [Lies] at h
 obtain ⟨u,r,F1,F2,rfl,rfl,h1,h2⟩:=h
 rw [Lie] at h1
 exact ⟨r,F2,by rw [h1.1],h2⟩
theorem Lies.seqs1 {w:World} {sz n:Nat} {cs ds:List Cel} {us:List Value} {F:List Nat} (h:Lies w (.seq sz n cs :: ds) us F):∃ A m c r G,us=.slice A m c :: r∧Lies w ds r G:=by
 rw [Lies] at h
 obtain ⟨u,r,F1,F2,rfl,rfl,h1,h2⟩:=h
 obtain ⟨A,c,rfl,_,_⟩:=h1.form
 exact ⟨A,n,c,r,F2,rfl,h2⟩
theorem Lies.nil1 {w:World} {us:List Value} {F:List Nat} (h:Lies w [] us F):us = []:=by rw [Lies] at h; exact h.1
/-! ### Cells that are read -/
structure ReadV (w:World) (A B:List Cel) (us:List Value) (F:List Nat):Prop where
 lies:Lies w (A++B) us F
theorem ReadV.start {w:World} {B:List Cel} {us:List Value} {F:List Nat} (h:Lies w B us F):ReadV w [] B us F:=⟨h⟩
theorem ReadV.next {w:World} {A B:List Cel} {c:Cel} {us:List Value} {F:List Nat} (h:ReadV w A (c :: B) us F):ReadV w (A++[c]) B us F:=⟨by rw [List.append_assoc]; exact h.lies⟩
theorem ReadV.skip {w:World} {A M B:List Cel} {us:List Value} {F:List Nat} (h:ReadV w A (M++B) us F):ReadV w (A++M) B us F:=⟨by rw [List.append_assoc]; exact h.lies⟩
theorem ReadV.step {w w' : World} {A B:List Cel} {us:List Value} {F:List Nat} (h:ReadV w A B us F) (hb:Below w.heap.size w w'):ReadV w' A B us F:=⟨h.lies.step hb⟩
theorem ReadV.call {w:World} {A B:List Cel} {c:Cel} {us:List Value} {F:List Nat} (h:ReadV w A (c :: B) us F) {p:Nat} (hp:p=A.length) {v:Value} (hv:us[p]? = some v):∃ Fc,Lie w c v Fc:=by
 obtain ⟨v',Fc,h1,h2⟩:=h.lies.cell hp
 obtain rfl:v' = v:=Option.some.inj (h1.symm.trans hv)
 exact ⟨Fc,h2⟩
theorem ReadV.mid {w:World} {A M B:List Cel} {us:List Value} {F:List Nat} (h:ReadV w A (M++B) us F) {p n:Nat} (hp:p=A.length) (hn:n=M.length) {ms:List Value} (hms:(us.drop p).take n=ms):∃ Fc,Lies w M ms Fc:=by
 obtain ⟨Fc,h1⟩:=h.lies.mid hp hn
 exact ⟨Fc,hms ▸ h1⟩
/-! ### Cells that are marked -/
theorem mkc0_len (a:List Cel) (s:Int):(mkc0 a s).length=a.length:=by
 induction a generalizing s with
 | nil=>simp [mkc0]
 | cons c a ih=>simp [mkc0,ih]
theorem MarkV.start {w:World} {cs:List Cel} {us:List Value} {F:List Nat} {s:Int} (h:Lies w cs us F) (hnd:F.Nodup) (hlv:Live w F):MarkV w s F [] cs us w :=
 ⟨by rw [mkc0]; exact h,hlv,hnd,But.refl _ _⟩
theorem MarkV.mid {w:World} {s:Int} {F:List Nat} {A M B:List Cel} {us:List Value} {wr:World} (h:MarkV w s F A (M++B) us wr) {p n:Nat} (hp:p=A.length) (hn:n=M.length) {ms:List Value} (hms:(us.drop p).take n=ms) {y:Int} (hy:y=s + cnts0 A) :
  ∃ Fc,(∀ g∈Fc,g∈F)∧Lies wr M ms Fc∧Fc.Nodup∧Live wr Fc ∧
   ∀ W,Lies W (mkc0 M y) ms Fc→Live W Fc→But Fc wr W→MarkV w s F (A++M) B us W:=by
 subst hp hy hn
 obtain ⟨ua,ub,Fa,Fb,e2,e1,h1,h2⟩:=h.lies.parts
 obtain ⟨uc,ud,Fc,Fd,rfl,rfl,h2,h3⟩:=h2.parts
 have hl:ua.length=A.length:=by rw [h1.len,mkc0_len]
 have hv2:uc=ms:=by
  rw [← hms,e2,← hl,← h2.len]
  simp
 subst hv2
 have hnd2:=h.nodup
 rw [e1] at hnd2
 obtain ⟨n1,n2,n3⟩:=List.nodup_append.1 hnd2
 obtain ⟨n4,n5,n6⟩:=List.nodup_append.1 n2
 have hcF:∀ g∈Fc,g∈F:=fun g hg=>by rw [e1]; simp [hg]
 refine ⟨Fc,hcF,h2,n4,fun g hg=>h.live g (hcF g hg),fun W hlw hvw hb=>⟨?_,?_,h.nodup,h.but.trans (hb.mono hcF)⟩⟩
 ·rw [mkc0_app,List.append_assoc,e1,e2]
  refine (h1.but hb fun g hg hc=>n3 g hg g (List.mem_append.2 (.inl hc)) rfl).append ?_
  exact hlw.append (h3.but hb fun g hg hc=>n6 g hc g hg rfl)
 ·intro g hg
  by_cases hc:g∈Fc
  ·exact hvw g hc
  ·obtain ⟨cur,e,fz,he,hf⟩:=h.live g hg
   exact ⟨cur,e,fz,(hb.block g ((Array.getElem?_eq_some_iff.1 he).1) hc).trans he,hf⟩
theorem MarkV.stop {w wr:World} {s:Int} {F:List Nat} {cs:List Cel} {us:List Value} (h:MarkV w s F cs [] us wr) {w0:World} (hb:Below w0.heap.size w0 w) :
  Lies wr (mkc0 cs s) us F∧Live wr F∧But F w0 wr :=
 ⟨by have:=h.lies; rwa [List.append_nil] at this,h.live,(Below.but hb F).trans h.but⟩
theorem MarkV.box {w wr:World} {s:Int} {F:List Nat} {A B:List Cel} {us:List Value} (h:MarkV w s F A B us wr) {g:Nat} {t:TypeId} {xs:List Value} (hb:Box w g t xs) (hg:g∉F):Box wr g t xs :=
 hb.keep (h.but.block g hb.lt hg)
/-! ### Marks that are found again -/
structure HeldV (w:World) (s:Int) (A B:List Cel) (us:List Value) (F:List Nat):Prop where
 lies:Lies w (mkc0 (A++B) s) us F
theorem HeldV.start {w:World} {s:Int} {B:List Cel} {us:List Value} {F:List Nat} (h:Lies w (mkc0 B s) us F):HeldV w s [] B us F:=⟨h⟩
theorem HeldV.next {w:World} {s:Int} {A B:List Cel} {c:Cel} {us:List Value} {F:List Nat} (h:HeldV w s A (c :: B) us F):HeldV w s (A++[c]) B us F:=⟨by rw [List.append_assoc]; exact h.lies⟩
theorem HeldV.skip {w:World} {s:Int} {A M B:List Cel} {us:List Value} {F:List Nat} (h:HeldV w s A (M++B) us F):HeldV w s (A++M) B us F:=⟨by rw [List.append_assoc]; exact h.lies⟩
theorem HeldV.step {w w' : World} {s:Int} {A B:List Cel} {us:List Value} {F:List Nat} (h:HeldV w s A B us F) (hb:Below w.heap.size w w'):HeldV w' s A B us F:=⟨h.lies.step hb⟩
theorem HeldV.call {w:World} {s:Int} {A B:List Cel} {sz n:Nat} {cs:List Cel} {us:List Value} {F:List Nat} (h:HeldV w s A (.seq sz n cs :: B) us F) {p:Nat} (hp:p=A.length) {v:Value} (hv:us[p]? = some v) {y:Int} (hy:y=s + cnts0 A):∃ Fc,Lie w ((Cel.seq sz n cs).mk y) v Fc:=by
 have h1:=h.lies
 rw [mkc0_app,mkc0] at h1
 obtain ⟨v',Fc,h2,h3⟩:=h1.cell (p:=p) (by rw [mkc0_len]; exact hp)
 obtain rfl:v' = v:=Option.some.inj (h2.symm.trans hv)
 exact ⟨Fc,by rw [hy]; exact h3⟩
theorem HeldV.mid {w:World} {s:Int} {A M B:List Cel} {us:List Value} {F:List Nat} (h:HeldV w s A (M++B) us F) {p n:Nat} (hp:p=A.length) (hn:n=M.length) {ms:List Value} (hms:(us.drop p).take n=ms) {y:Int} (hy:y=s + cnts0 A):∃ Fc,Lies w (mkc0 M y) ms Fc:=by
 have h1:=h.lies
 rw [mkc0_app,mkc0_app] at h1
 obtain ⟨Fc,h2⟩:=h1.mid (p:=p) (n:=n) (by rw [mkc0_len]; exact hp) (by rw [mkc0_len]; exact hn)
 exact ⟨Fc,by rw [hy]; exact hms ▸ h2⟩
/-! ### A struct that is filled -/
theorem filled {w wr w2:World} {g:Nat} {A M:List Cel} {vs ms:List Value} {F G:List Nat} (L:Lies wr A vs F) (fr:Fresh (g + 1) wr F) (be:Below w.heap.size w wr) (hg:w.heap.size≤g) (hgl:g < wr.heap.size) (hb:Below wr.heap.size wr w2)
  (l2:Lies w2 M ms G) (f2:Fresh wr.heap.size w2 G) (p:Nat) {W:World} (hW:w2.setCells g p ms=W) :
  Lies W (A++M) (vs++ms) (F++G)∧Fresh (g + 1) W (F++G)∧Below w.heap.size w W∧W.heap.size=w2.heap.size∧But [g] w2 W:=by
 subst hW
 have bs:=but_sets w2 g ms p
 have h4' : Fresh (g + 1) w2 (F++G):=(fr.step hb).app (hi:=wr.heap.size) (fun x hx=>fr.live.lt x hx) f2 (by omega)
 have hd:∀ x∈F++G,x∉[g]:=fun x hx he=>by
  have:=h4'.low x hx
  have:=List.mem_singleton.1 he
  omega
 refine ⟨((L.step hb).append l2).but bs hd,⟨h4'.nodup,h4'.low,h4'.live.but bs hd⟩,?_,size_sets _ _ _ _,bs⟩
 exact bs.below (be.trans (hb.mono (by have:=be.size; omega))) (fun x hx=>by rw [List.mem_singleton.1 hx]; exact hg) (by have:=be.size; have:=hb.size; omega)
theorem box_of_own {w:World} {base sz n g:Nat} {e:TypeId} {xs:List Value} (h:w.ownsRow base e sz (.slice (some ⟨g,0,none⟩) n n) n xs):Box w g e xs∧xs.length=n * sz:=by
 obtain ⟨h1,h2⟩:=h
 refine ⟨?_,h1⟩
 rcases h2 with ⟨hv,_⟩ | ⟨g',cap,cur,hv,hb,hg,hnc,hcm,hcs,ht⟩
 ·cases hv
 ·injection hv with e1 e2 e3
  injection e1 with e1
  injection e1 with e1
  subst e1 e3
  have:cur.toList=xs:=by rw [← ht,List.take_of_length_le]; simpa using Nat.le_of_eq hcs
  rw [Box,hg,← this]
theorem Lies.lens {w:World} {cs:List Cel} {us:List Value} {F:List Nat} (h:Lies w cs us F) {n:Nat} (hn:cs.length=n):us.length=n:=h.len.trans hn
end Go.Proofs.YtgaadpkefncnmaaGreatDoor
/-
  The order of byte strings: the model's strings and the program's bytes.Compare.
-/
namespace Go.Proofs.YtgaadpkefncnmaaGreatDoor
open Go.RowKit
set_option linter.unusedVariables false
def lessL:List Int→List Int→Bool
 | _,[]=>false
 | [],_ :: _=>true
 | x :: a,y :: b=>decide (x < y) || (x == y && lessL a b)
theorem u8_lt {x y:Int} (hx:0≤x∧x≤255) (hy:0≤y∧y≤255):decide (UInt8.ofNat x.toNat < UInt8.ofNat y.toNat)=decide (x < y):=by
 have e:(UInt8.ofNat x.toNat < UInt8.ofNat y.toNat)↔x < y:=by
  rw [UInt8.lt_iff_toNat_lt,UInt8.toNat_ofNat',UInt8.toNat_ofNat']
  omega
 exact decide_eq_decide.2 e
theorem u8_eq {x y:Int} (hx:0≤x∧x≤255) (hy:0≤y∧y≤255):(UInt8.ofNat x.toNat == UInt8.ofNat y.toNat)=(x == y):=by
 have e:(UInt8.ofNat x.toNat=UInt8.ofNat y.toNat)↔x=y:=by
  rw [← UInt8.toNat_inj,UInt8.toNat_ofNat',UInt8.toNat_ofNat']
  omega
 by_cases h:x=y
 ·subst h; simp
 ·have h2:¬ UInt8.ofNat x.toNat=UInt8.ofNat y.toNat:=fun h3=>h (e.1 h3)
  have e1:(UInt8.ofNat x.toNat == UInt8.ofNat y.toNat)=false:=by simpa using h2
  have e2:(x == y)=false:=by simpa using h
  rw [e1,e2]
theorem less_str {a b:List Int} (ha:Byt a) (hb:Byt b):Op.bytesLess (strOfNums a).toList (strOfNums b).toList=lessL a b:=by
 rw [ByteArray.toList_eq,ByteArray.toList_eq,strOfNums_data,strOfNums_data]
 induction a generalizing b with
 | nil =>
   cases b with
   | nil=>rfl
   | cons y b=>rfl
 | cons x a ih =>
   cases b with
   | nil=>rfl
   | cons y b =>
     have hx:=ha x (List.mem_cons_self ..)
     have hy:=hb y (List.mem_cons_self ..)
     simp only [List.map_cons,Op.bytesLess,lessL]
     rw [u8_lt hx hy,u8_eq hx hy,ih (fun z hz=>ha z (List.mem_cons_of_mem _ hz)) (fun z hz=>hb z (List.mem_cons_of_mem _ hz))]
theorem cmp_less:∀ (a b:List UInt8),0≤Lib.compareBytes a b↔Op.bytesLess a b=false
 | [],[]=>by simp [Lib.compareBytes,Op.bytesLess]
 | [],_ :: _=>by simp [Lib.compareBytes,Op.bytesLess]
 | _ :: _,[]=>by simp [Lib.compareBytes,Op.bytesLess]
 | x :: a,y :: b=>by
   have ih:=cmp_less a b
   unfold Lib.compareBytes Op.bytesLess
   by_cases h1:x < y
   ·simp [h1]
   ·by_cases h2:y < x
    ·have h3:(x == y)=false:=by
      have:x≠y:=fun e=>by subst e; exact UInt8.lt_irrefl _ h2
      simpa using this
     simp [h1,h2,h3]
    ·have h3:x=y:=UInt8.le_antisymm (UInt8.not_lt.1 h2) (UInt8.not_lt.1 h1)
     subst h3
     rw [if_neg h1,if_neg h1,ih]
     simp [h1]
/-- What the comparison of two slices gives. -/
def cmpI (a b:List Int):Int:=Lib.compareBytes (strOfNums a).data.toList (strOfNums b).data.toList
theorem cmpI_less {a b:List Int} (ha:Byt a) (hb:Byt b):decide (0≤cmpI a b) = !lessL a b:=by
 have h:=cmp_less (strOfNums a).data.toList (strOfNums b).data.toList
 have e:=less_str ha hb
 rw [ByteArray.toList_eq,ByteArray.toList_eq] at e
 rw [e] at h
 unfold cmpI
 cases hl:lessL a b with
 | false=>rw [hl] at h; exact decide_eq_true (h.2 rfl)
 | true=>rw [hl] at h; exact decide_eq_false fun h2=>by cases h.1 h2
theorem bytesOf_rd {P:Program} {w:World} {v:Value} {l:List Int} (h:Rd w v (bs l)):(Extern.Bytes.bytesOf v).run P w=.ok (strOfNums l) w:=by
 obtain ⟨A,c,rfl,hc,hm,hcell⟩:=h
 rw [bs_length] at *
 cases A with
 | none =>
   have h0:l = []:=by
    rcases Nat.eq_zero_or_pos l.length with h | h
    ·exact List.eq_nil_of_length_eq_zero h
    ·obtain ⟨b,off,hA,_⟩:=hcell h
     cases hA
   subst h0
   rfl
 | some ad =>
   have:=Lib.run_loadBytesX (P:=P) w l ad .empty (fun j x hj=>by
    have hjl:j < l.length:=(List.getElem?_eq_some_iff.1 hj).1
    obtain ⟨b,off,hA,_,hc⟩:=hcell (by omega)
    injection hA with hA
    subst hA
    rw [Addr.add_lit]
    refine hc j _ ?_
    rw [bs,List.getElem?_map,hj]
    rfl)
   simp only [Extern.Bytes.bytesOf]
   rw [this]
   simp [strOfNums,Lib.bytesOf,ByteArray.empty,ByteArray.emptyWithCapacity]
   rfl
theorem ext_compare (a b:List Int) (v1 v2:Value) (w:World) (h1:Rd w v1 (bs a)) (h2:Rd w v2 (bs b)):(callFunc 173 #[v1,v2]).run Tryz.prog w=.ok (.value (.int .i64 (cmpI a b))) w:=by
 have hr:(Extern.BytealgCompare.compare #[v1,v2]).run Tryz.prog w=.ok (.int .i64 (cmpI a b)) w:=by
  change Sem.run Tryz.prog (do pure (goInt (Extern.BytealgCompare.cmp (← Extern.Bytes.bytesOf v1) (← Extern.Bytes.bytesOf v2)))) w=_
  simp only [Sem.run_bind,bytesOf_rd h1,bytesOf_rd h2,Sem.run_pure,Result.andThen]
  rw [Lib.cmp_eq]
  rfl
 rw [run_callFunc_extern Tryz.func173 (by kernel_rfl) (by kernel_rfl) (by kernel_rfl) (e:=Extern.BytealgCompare.compare) (by kernel_rfl),hr]
 rfl
set_option maxHeartbeats 400000 in
theorem compare (a b:List Int) (v1 v2:Value) (w:World) (h1:Rd w v1 (bs a)) (h2:Rd w v2 (bs b)) :
  Calls Tryz.prog 131 #[v1,v2] w fun e w'=>e=.returned (.int .i64 (cmpI a b))∧w=w':=by
 have hx:=ext_compare a b v1 v2 w h1 h2
 clear h1 h2
 go_enter Tryz.func131,Tryz.ntmps131
 go_wp2
 go_ret
 exact ⟨rfl,rfl⟩
end Go.Proofs.YtgaadpkefncnmaaGreatDoor
/-
  A map from names to values, as a function of the names: its order is not seen.
-/
namespace Go.Proofs.YtgaadpkefncnmaaGreatDoor
open Go.RowKit Go.Maps Go.ChangeShapes Go.WideMaps
set_option linter.unusedVariables false
/-- The key of some bytes. -/
def kyS (s:List Int):Lit:=.string (strOfNums s).data.toList
theorem kyS_inj {a b:List Int} (ha:Byt a) (hb:Byt b) (h:kyS a=kyS b):a=b:=by
 unfold kyS at h
 injection h with h
 refine str_inj ha hb ?_
 rw [ByteArray.toList_eq,ByteArray.toList_eq,h]
theorem kyS_key (s:List Int):WideAt.IsKeyLit (kyS s):=trivial
/-- A value is read as itself. -/
def rdV (v:Value):Option (DataW Value × List MemPlace):=some (.held v,[])
theorem strKeyed:Keyed Tryz.prog 9:=string_keyed Tryz.underlying9
theorem keyOf_ky {s:List Int} (h:s.length≤1099511627776):keyOf Tryz.prog 9 (.string (strOfNums s))=some (kyS s):=by
 refine keyOf_string_mk Tryz.underlying9 ?_
 rw [strOfNums_size]
 unfold maxLen
 omega
theorem keyOf_str_inv {key:Value} {l:Lit} (h:keyOf Tryz.prog 9 key=some l):∃ s:ByteArray,key=.string s∧l=.string s.data.toList:=by
 rw [keyOf_string Tryz.underlying9] at h
 cases key <;> simp [mapKey,Tryz.underlying9] at h
 exact ⟨_,rfl,h.2.symm⟩
def upd (f:List Int→Option Value) (n:List Int) (v:Option Value):List Int→Option Value:=fun m=>if m=n then v else f m
theorem upd_same (f:List Int→Option Value) (n:List Int) (v:Option Value):upd f n v n=v:=by rw [upd,if_pos rfl]
theorem upd_other (f:List Int→Option Value) {n m:List Int} (v:Option Value) (h:m≠n):upd f n v m=f m:=by rw [upd,if_neg h]
/-- What a datum says of the function. -/
structure Fun (D:DataW Value) (f:List Int→Option Value) (c:Nat):Prop where
 tidy:Tidy D
 has_:∀ nm,Byt nm→Maps.has D (kyS nm)=(f nm).isSome
 at_:∀ nm,Byt nm→∀ z,D.atKey (kyS nm) z=((f nm).map DataW.held).getD z
 keys:∀ l,Maps.has D l=true→∃ nm,Byt nm∧nm.length≤1048576∧l=kyS nm
 size_:Maps.size D=c
theorem Fun.nil:Fun (.map []) (fun _=>none) 0:=⟨tidy_empty,fun _ _=>rfl,fun _ _ _=>rfl,fun l h=>by simp [Maps.has] at h,rfl⟩
theorem Fun.put {D:DataW Value} {f:List Int→Option Value} {c:Nat} (h:Fun D f c) {n:List Int} (hn:Byt n) (hl:n.length≤1048576) (v:Value) :
  Fun (D.put (kyS n) (.held v)) (upd f n (some v)) (if (f n).isSome then c else c + 1):=by
 have hm:=h.tidy.isMap
 refine ⟨h.tidy.put (kyS_key n) _,fun m hB=>?_,fun m hB z=>?_,fun l hh=>?_,?_⟩
 ·by_cases e:m=n
  ·subst e
   rw [has_put_same hm (kyS_key m),upd_same]; rfl
  ·rw [has_put_other (fun h'=>e (kyS_inj hB hn h')),h.has_ m hB,upd_other _ _ e]
 ·by_cases e:m=n
  ·subst e
   rw [atKey_put_same hm (kyS_key m),upd_same]; rfl
  ·rw [atKey_put_other (fun h'=>e (kyS_inj hB hn h')),h.at_ m hB,upd_other _ _ e]
 ·by_cases e:l=kyS n
  ·exact ⟨n,hn,hl,e⟩
  ·rw [has_put_other e] at hh
   exact h.keys l hh
 ·rw [size_put h.tidy,h.has_ n hn,h.size_]
/-- Block b is a map of at most n entries that is the function f, of c names. -/
def MapV (w:World) (b n:Nat) (f:List Int→Option Value) (c:Nat):Prop:=∃ D,w.ownsMap Tryz.prog 9 rdV b n D∧Fun D f c
theorem MapV.made (w:World):MapV (w.alloc (.map #[] 0)) w.heap.size 0 (fun _=>none) 0:=⟨_,World.ownsMap_made w _ _ _,Fun.nil⟩
theorem MapV.mono {w:World} {b n n' c:Nat} {f:List Int→Option Value} (h:MapV w b n f c) (hn:n≤n'):MapV w b n' f c:=by
 obtain ⟨D,h1,h2⟩:=h
 exact ⟨D,h1.mono hn,h2⟩
theorem MapV.lt {w:World} {b n c:Nat} {f:List Int→Option Value} (h:MapV w b n f c):b < w.heap.size:=by
 obtain ⟨D,h1,h2⟩:=h
 exact h1.lt
theorem MapV.size_le {w:World} {b n c:Nat} {f:List Int→Option Value} (h:MapV w b n f c):c≤n:=by
 obtain ⟨D,h1,h2⟩:=h
 have:=h1.size_le
 rw [h2.size_] at this
 exact this
theorem MapV.block {w w' : World} {b n c:Nat} {f:List Int→Option Value} (h:MapV w b n f c) (hb:w'.heap[b]? = w.heap[b]?):MapV w' b n f c:=by
 obtain ⟨D,⟨es,clock,h1,h2⟩,h3⟩:=h
 exact ⟨D,⟨es,clock,hb.trans h1,h2⟩,h3⟩
theorem MapV.below {w w' : World} {B b n c:Nat} {f:List Int→Option Value} (h:MapV w b n f c) (hb:Below B w w') (hB:b < B):MapV w' b n f c:=h.block (hb.block b hB)
theorem MapV.step {w w' : World} {b n c:Nat} {f:List Int→Option Value} (h:MapV w b n f c) (hb:Below w.heap.size w w'):MapV w' b n f c:=h.below hb h.lt
theorem MapV.grown {w w' : World} {row:Option Nat} {b n c:Nat} {f:List Int→Option Value} (h:MapV w b n f c) (hg:w.grownBy w' row) (hne:some b≠row):MapV w' b n f c:=h.block (hg.block b h.lt hne)
theorem MapV.ext {w:World} {b n c:Nat} {f g:List Int→Option Value} (h:MapV w b n f c) (hg:∀ nm,Byt nm→f nm=g nm):MapV w b n g c:=by
 obtain ⟨D,h1,h2⟩:=h
 exact ⟨D,h1,h2.tidy,fun nm hB=>by rw [h2.has_ nm hB,hg nm hB],fun nm hB z=>by rw [h2.at_ nm hB z,hg nm hB],h2.keys,h2.size_⟩
/-- The look-up. -/
theorem MapV.look {w:World} {b n c:Nat} {f:List Int→Option Value} (h:MapV w b n f c) {t e:TypeId} (ht:Tryz.prog.underlying t=some (.map 9 e)) {z:Value} (hz:(zeroValue e).run Tryz.prog w=.ok z w) {nm:List Int} (hB:Byt nm) (hl:nm.length≤1099511627776) :
  (Instr.lookup t (.map (some b)) (.string (strOfNums nm)) true).run Tryz.prog w=.ok (.tuple #[(f nm).getD z,.bool (f nm).isSome]) w:=by
 obtain ⟨D,h1,h2⟩:=h
 obtain ⟨v,ps,hrun,hv⟩:=h1.look_ok strKeyed ht hz (show rdV z=some (.held z,[]) from rfl) (keyOf_ky hl)
 rw [hrun,h2.has_ nm hB]
 rw [h2.at_ nm hB] at hv
 have h3:DataW.held v=((f nm).map DataW.held).getD (.held z):=congrArg Prod.fst (Option.some.inj hv)
 have:v=(f nm).getD z:=by
  cases hf:f nm with
  | none=>rw [hf] at h3; exact DataW.held.inj h3
  | some y=>rw [hf] at h3; exact DataW.held.inj h3
 rw [this]
theorem MapV.look1 {w:World} {b n c:Nat} {f:List Int→Option Value} (h:MapV w b n f c) {t e:TypeId} (ht:Tryz.prog.underlying t=some (.map 9 e)) {z:Value} (hz:(zeroValue e).run Tryz.prog w=.ok z w) {nm:List Int} (hB:Byt nm) (hl:nm.length≤1099511627776) :
  (Instr.lookup t (.map (some b)) (.string (strOfNums nm)) false).run Tryz.prog w=.ok ((f nm).getD z) w:=by
 obtain ⟨D,h1,h2⟩:=h
 obtain ⟨v,ps,hrun,hv⟩:=h1.lookup strKeyed ht hz (show rdV z=some (.held z,[]) from rfl) (keyOf_ky hl)
 rw [hrun]
 rw [h2.at_ nm hB] at hv
 have h3:DataW.held v=((f nm).map DataW.held).getD (.held z):=congrArg Prod.fst (Option.some.inj hv)
 have:v=(f nm).getD z:=by
  cases hf:f nm with
  | none=>rw [hf] at h3; exact DataW.held.inj h3
  | some y=>rw [hf] at h3; exact DataW.held.inj h3
 rw [this]
theorem MapV.len {w:World} {b n c:Nat} {f:List Int→Option Value} (h:MapV w b n f c) {t e:TypeId} (ht:Tryz.prog.underlying t=some (.map 9 e)) (ty:TypeId):(Builtin.len_ #[t] ty #[.map (some b)]).run Tryz.prog w=.ok (.int .i64 c) w:=by
 obtain ⟨D,h1,h2⟩:=h
 rw [h1.len ht ty,h2.size_]
theorem nilMap_look {w:World} {t e:TypeId} (ht:Tryz.prog.underlying t=some (.map 9 e)) {z:Value} (hz:(zeroValue e).run Tryz.prog w=.ok z w) {nm:List Int} (hl:nm.length≤1099511627776) :
  (Instr.lookup t (.map none) (.string (strOfNums nm)) true).run Tryz.prog w=.ok (.tuple #[z,.bool false]) w:=by
 have:=Maps.look_nil (P:=Tryz.prog) (w:=w) true strKeyed ht hz (keyOf_ky hl)
 simpa using this
theorem nilMap_look1 {w:World} {t e:TypeId} (ht:Tryz.prog.underlying t=some (.map 9 e)) {z:Value} (hz:(zeroValue e).run Tryz.prog w=.ok z w) {nm:List Int} (hl:nm.length≤1099511627776) :
  (Instr.lookup t (.map none) (.string (strOfNums nm)) false).run Tryz.prog w=.ok z w:=by
 have:=Maps.look_nil (P:=Tryz.prog) (w:=w) false strKeyed ht hz (keyOf_ky hl)
 simpa using this
section
variable (w:World) {ops:Array Oper} {rest:List Oper} {o:Oper} {a:Act} {Q:Exit→Act→World→Prop}
/-- The store. -/
theorem wpList_putV (hg:o.guard=none) (m x v:Operand) (t:TypeId) (hop:o.op=Op.mapUpdate t m x v) (e:TypeId) (ht:Tryz.prog.underlying t=some (.map 9 e)) (b n:Nat) (f:List Int→Option Value) (c:Nat)
  (hm:a.eval m=.map (some b)) (hown:MapV w b n f c) (hn:n≤1099511627776) (nm:List Int) (hB:Byt nm) (hl:nm.length≤1048576) (val:Value) (hx:a.eval x=.string (strOfNums nm)) (hv:a.eval v=val)
  (hK:∀ w',MapV w' b (n + 1) (upd f nm (some val)) (if (f nm).isSome then c else c + 1)→w.grownBy w' (some b)→wpList Tryz.prog ops Q rest (a.put o.dst undef) w'):wpList Tryz.prog ops Q (o :: rest) a w:=by
 obtain ⟨D,h1,h2⟩:=hown
 exact wpList_mapUpdate_own w hg m x v t hop 9 e strKeyed ht rdV b n D hm h1 (by unfold maxLen; omega) _ val _ hx hv (keyOf_ky (by omega)) (.held val) [] rfl (fun w' h3 h4=>hK w' ⟨_,h3,h2.put hB hl val⟩ h4)
end
/-- A range over a map under way: 'left' are the names still to come. -/
def RangeV (w:World) (b r n:Nat) (f:List Int→Option Value) (c:Nat) (left:List Int→Bool) (cnt:Nat):Prop :=
 ∃ D lf,w.ranges Tryz.prog 9 rdV b r n D lf cnt∧Fun D f c∧∀ nm,Byt nm→left nm=lf (kyS nm)
theorem RangeV.map {w:World} {b r n c:Nat} {f:List Int→Option Value} {left:List Int→Bool} {cnt:Nat} (h:RangeV w b r n f c left cnt):MapV w b n f c:=by
 obtain ⟨D,lf,h1,h2,h3⟩:=h
 exact ⟨D,h1.owns,h2⟩
theorem RangeV.left_eq {w:World} {b r n c:Nat} {f:List Int→Option Value} {left:List Int→Bool} {cnt:Nat} (h:RangeV w b r n f c left cnt):w.rangeLeft b r=cnt:=by
 obtain ⟨D,lf,h1,h2,h3⟩:=h
 exact h1.left_eq
theorem RangeV.ltr {w:World} {b r n c:Nat} {f:List Int→Option Value} {left:List Int→Bool} {cnt:Nat} (h:RangeV w b r n f c left cnt):r < w.heap.size:=by
 obtain ⟨D,lf,h1,h2,h3⟩:=h
 exact h1.lt
theorem RangeV.grown {w w' : World} {row:Option Nat} {b r n c:Nat} {f:List Int→Option Value} {left:List Int→Bool} {cnt:Nat} (h:RangeV w b r n f c left cnt) (hg:w.grownBy w' row) (hb:some b≠row) (hr:some r≠row):RangeV w' b r n f c left cnt:=by
 obtain ⟨D,lf,h1,h2,h3⟩:=h
 exact ⟨D,lf,h1.kept hg hb hr,h2,h3⟩
theorem RangeV.step {w w' : World} {b r n c:Nat} {f:List Int→Option Value} {left:List Int→Bool} {cnt:Nat} (h:RangeV w b r n f c left cnt) (hb:Below w.heap.size w w'):RangeV w' b r n f c left cnt :=
 h.grown (row:=none) ⟨hb.os,hb.tape,hb.output,hb.size,fun k hk _=>hb.block k hk⟩ (by simp) (by simp)
section
variable (w:World) {ops:Array Oper} {rest:List Oper} {o:Oper} {a:Act} {Q:Exit→Act→World→Prop}
theorem wpList_rangeV (hg:o.guard=none) (m:Operand) (t:TypeId) (hop:o.op=Op.range t m) (e:TypeId) (ht:Tryz.prog.underlying t=some (.map 9 e)) (b n:Nat) (f:List Int→Option Value) (c:Nat)
  (hm:a.eval m=.map (some b)) (hown:MapV w b n f c)
  (hK:∀ w',RangeV w' b w.heap.size n f c (fun nm=>(f nm).isSome) c→Below w.heap.size w w'→w'.heap.size=w.heap.size + 1→wpList Tryz.prog ops Q rest (a.put o.dst (.pointer (some ⟨w.heap.size,0,none⟩))) w') :
  wpList Tryz.prog ops Q (o :: rest) a w:=by
 obtain ⟨D,h1,h2⟩:=hown
 exact wpList_range_own w hg m t hop 9 e strKeyed ht rdV b n D hm h1 (fun w' h3 h4 h5=>hK w' ⟨D,_,by rw [← h2.size_]; exact h3,h2,fun nm hB=>(h2.has_ nm hB).symm⟩ ⟨h4.os,h4.tape,h4.output,h4.size,fun k hk=>h4.block k hk (by simp)⟩ h5)
theorem wpList_nextV (hg:o.guard=none) (it:Operand) (hop:o.op=Op.next it false) (b r n:Nat) (f:List Int→Option Value) (c:Nat) (left:List Int→Bool) (cnt:Nat)
  (hit:a.eval it=.pointer (some ⟨r,0,none⟩)) (h:RangeV w b r n f c left cnt)
  (hDone:(∀ nm,Byt nm→left nm=false)→wpList Tryz.prog ops Q rest (a.put o.dst (.tuple #[.bool false])) w)
  (hMore:∀ (nm:List Int) (v:Value) (w' : World) (cnt' : Nat),Byt nm→nm.length≤1048576→f nm=some v→left nm=true→RangeV w' b r n f c (fun m=>left m && !decide (m=nm)) cnt'→cnt' < cnt→w.grownBy w' (some r)→w'.heap.size=w.heap.size →
   (Instr.entry (.pointer (some ⟨r,0,none⟩))).run Tryz.prog w' = .ok (.tuple #[.string (strOfNums nm),v]) w'→wpList Tryz.prog ops Q rest (a.put o.dst (.tuple #[.bool true,.string (strOfNums nm),v])) w') :
  wpList Tryz.prog ops Q (o :: rest) a w:=by
 obtain ⟨D,lf,h1,h2,h3⟩:=h
 refine wpList_next_ranges w hg it hop 9 strKeyed rdV (fun x:ByteArray=>Value.string x) (fun v:Value=>v) (fun key kl hk=>by obtain ⟨x,hx,_⟩:=keyOf_str_inv hk; exact ⟨x,hx⟩) (fun v y hv=>⟨v,rfl⟩) b r n D lf cnt hit h1
  (fun _ hl=>hDone fun nm hB=>by rw [h3 nm hB]; exact hl _) ?_
 intro x v kl y w' cnt' hkey hlk hv hat hrg hlt hgr hsz hen
 obtain ⟨x',ex,rfl⟩:=keyOf_str_inv hkey
 injection ex with ex
 subst ex
 have hhas:Maps.has D (.string x.data.toList)=true:=by
  cases hh:Maps.has D (.string x.data.toList)
  ·exfalso
   have h4:=hat (.lit (.bool true))
   have h5:=hat (.lit (.bool false))
   rw [atKey_of_not_has hh] at h4 h5
   rw [← h5] at h4
   cases h4
  ·rfl
 obtain ⟨nm,hB,hln,hky⟩:=h2.keys _ hhas
 have ex:x=strOfNums nm:=by
  have e2:x.data.toList=(strOfNums nm).data.toList:=Lit.string.inj hky
  exact ByteArray.ext (Array.toList_inj.1 e2)
 subst ex
 have hfn:f nm=some v:=by
  have h4:=hat (.lit (.bool true))
  have h6:(DataW.atKey D (Lit.string (strOfNums nm).data.toList) (.lit (.bool true)))=((f nm).map DataW.held).getD (.lit (.bool true)):=h2.at_ nm hB _
  rw [h6] at h4
  have hs:=h2.has_ nm hB
  rw [show Maps.has D (kyS nm)=true from hhas] at hs
  cases hf:f nm with
  | none=>rw [hf] at hs; cases hs
  | some u =>
    rw [hf] at h4
    have e5:y=(.held v,[]):=(Option.some.inj hv).symm
    rw [e5] at h4
    exact congrArg some (DataW.held.inj h4)
 refine hMore nm v w' cnt' hB hln hfn (by rw [h3 nm hB]; exact hlk) ⟨D,_,hrg,h2,fun m hm=>?_⟩ hlt hgr hsz hen
 show (left m && !decide (m=nm))=(lf (kyS m) && !(kyS m).sameKey (kyS nm))
 have e1:(kyS m).sameKey (kyS nm)=decide (m=nm):=by
  by_cases e:m=nm
  ·subst e
   rw [WideAt.sameKey_self (kyS_key m)]
   exact (decide_eq_true rfl).symm
  ·rw [sameKey_ne (fun h'=>e (kyS_inj hm hB h'))]
   exact (decide_eq_false e).symm
 rw [h3 m hm,e1]
end
end Go.Proofs.YtgaadpkefncnmaaGreatDoor
/-
  A slice of texts, each in a block of its own, in whatever order: what it is, one text more.
-/
namespace Go.Proofs.YtgaadpkefncnmaaGreatDoor
open Go.RowKit
set_option linter.unusedVariables false
theorem namesInfo5:(Tryz.prog.info? 39).map (fun i=>(i.zero,i.size,i.bytes))=some (some (.slice none 0 0),1,24):=by kernel_rfl
theorem own_keep {w w' : World} {lo n size:Nat} {e:TypeId} {v:Value} {xs:List Value} (h:w.ownsRow lo e size v n xs) (hk:∀ g,v.ownBlock=some g→w'.heap[g]? = w.heap[g]?):w'.ownsRow lo e size v n xs:=by
 refine ⟨h.1,?_⟩
 rcases h.2 with hn | ⟨g,cap,cur,rfl,hbg,hg,rest⟩
 ·exact .inl hn
 ·exact .inr ⟨g,cap,cur,rfl,hbg,by rw [hk g rfl]; exact hg,rest⟩
theorem own_base {w:World} {lo lo' n size:Nat} {e:TypeId} {v:Value} {xs:List Value} (h:w.ownsRow lo e size v n xs) (hl:lo'≤lo):w.ownsRow lo' e size v n xs:=by
 refine ⟨h.1,?_⟩
 rcases h.2 with hn | ⟨g,cap,cur,rfl,hbg,rest⟩
 ·exact .inl hn
 ·exact .inr ⟨g,cap,cur,rfl,Nat.le_trans hl hbg,rest⟩
theorem own_ne {w:World} {lo lo' n n' size size' : Nat} {e e' : TypeId} {v u:Value} {xs ys:List Value} (h:w.ownsRow lo e size v n xs) (k:w.ownsRow lo' e' size' u n' ys) (he:e≠e'):u.ownBlock=none∨u.ownBlock≠v.ownBlock:=by
 rcases k.2 with ⟨rfl,_⟩ | ⟨g,cap,cur,rfl,_,hg,_⟩
 ·exact .inl rfl
 ·refine .inr fun h2=>?_
  rcases h.2 with ⟨rfl,_⟩ | ⟨g',cap',cur',rfl,_,hg',_⟩
  ·cases h2
  ·have:g=g':=Option.some.inj h2
   subst this
   rw [hg] at hg'
   injection hg' with hg'
   injection hg' with _ hg' _
   exact he hg'.symm
def SepB (us:List Value):Prop:=∀ (i j:Nat) (u u' : Value) (g:Nat),i≠j→us[i]? = some u→us[j]? = some u'→u.ownBlock=some g→u'.ownBlock≠some g
/-- v holds us; each of us is a text of ns in a row of its own. -/
structure OwnU (lo:Nat) (w:World) (v:Value) (ns:List (List Int)) (us:List Value):Prop where
 len:us.length=ns.length
 row:w.ownsRow lo 39 1 v us.length us
 each:∀ i u,us[i]? = some u→w.ownsRow lo 5 1 u (ns.getD i []).length (bs (ns.getD i []))
 sep:SepB us
def OwnS (lo:Nat) (w:World) (v:Value) (ns:List (List Int)):Prop:=∃ us,OwnU lo w v ns us
theorem own_rdV {w:World} {lo n:Nat} {e:TypeId} {v:Value} {xs:List Value} (h:w.ownsRow lo e 1 v n xs) (hn:n=xs.length):Rd w v xs:=(Own.of h hn).rd
theorem OwnU.rd {lo:Nat} {w:World} {v:Value} {ns:List (List Int)} {us:List Value} (h:OwnU lo w v ns us):RdN w v ns :=
 ⟨us,own_rdV h.row rfl,h.len,fun i u hu=>own_rdV (h.each i u hu) (by rw [bs_length])⟩
theorem OwnS.rd {lo:Nat} {w:World} {v:Value} {ns:List (List Int)} (h:OwnS lo w v ns):RdN w v ns:=h.elim fun _ h=>h.rd
theorem OwnU.keep {lo:Nat} {w w' : World} {v:Value} {ns:List (List Int)} {us:List Value} (h:OwnU lo w v ns us) (hk:∀ g,lo≤g→g < w.heap.size→w'.heap[g]? = w.heap[g]?):OwnU lo w' v ns us :=
 ⟨h.len,own_keep h.row fun g hg=>hk g (h.row.lt g hg).1 (h.row.lt g hg).2,fun i u hu=>own_keep (h.each i u hu) fun g hg=>hk g ((h.each i u hu).lt g hg).1 ((h.each i u hu).lt g hg).2,h.sep⟩
theorem OwnS.step {lo:Nat} {w w' : World} {v:Value} {ns:List (List Int)} (h:OwnS lo w v ns) (hb:Below w.heap.size w w'):OwnS lo w' v ns:=h.elim fun us h=>⟨us,h.keep fun g _ hg=>hb.block g hg⟩
theorem OwnS.outside {lo a b:Nat} {w w' : World} {v:Value} {ns:List (List Int)} (h:OwnS lo w v ns) (ho:Outside a b w w') (hd:b≤lo):OwnS lo w' v ns:=h.elim fun us h=>⟨us,h.keep fun g hl hg=>ho.block g hg (.inr (by omega))⟩
theorem OwnS.nil (lo:Nat) (w:World):OwnS lo w (.slice none 0 0) []:=⟨[],rfl,World.ownsRow_nil _ _ _ _,fun i u hu=>by simp at hu,fun i j u u' g _ hu=>by simp at hu⟩
theorem OwnS.base {lo lo' : Nat} {w:World} {v:Value} {ns:List (List Int)} (h:OwnS lo w v ns) (hl:lo'≤lo):OwnS lo' w v ns:=h.elim fun us h=>⟨us,h.len,own_base h.row hl,fun i u hu=>own_base (h.each i u hu) hl,h.sep⟩
theorem getD_app {ns:List (List Int)} {n:List Int} {i:Nat} (h:i < ns.length):(ns++[n]).getD i []=ns.getD i []:=by
 simp [List.getD,List.getElem?_append_left h]
theorem getD_last (ns:List (List Int)) (n:List Int):(ns++[n]).getD ns.length []=n:=by simp [List.getD]
/-- One text more: it was made in W1, and appended to the row behind one more block. -/
theorem OwnU.snoc {lo:Nat} {W W1 W3:World} {v v' u:Value} {ns:List (List Int)} {n:List Int} {us:List Value} (h:OwnU lo W v ns us) (hb:Below W.heap.size W W1) (hu:W1.ownsRow W.heap.size 5 1 u n.length (bs n)) (hlo:lo≤W.heap.size) (o:Obj)
  (own' : W3.ownsRow lo 39 1 v' (us.length + 1) (us++[u])) (hg:(W1.alloc o).grownBy W3 v.ownBlock):OwnU lo W3 v' (ns++[n]) (us++[u]):=by
 have row1:=own_step h.row hb
 refine ⟨by simp [h.len],own_len own' (by simp),fun i x hx=>?_,fun i j x x' g hij hx hx' hxg=>?_⟩
 ·rcases Nat.lt_or_ge i us.length with hi | hi
  ·rw [List.getElem?_append_left hi] at hx
   rw [getD_app (by rw [← h.len]; exact hi)]
   exact ((own_step (h.each i x hx) hb).alloc o).kept hg (own_ne row1 (own_step (h.each i x hx) hb) (by decide))
  ·have hi2:i=us.length:=by
    have:=(List.getElem?_eq_some_iff.1 hx).1
    simp at this
    omega
   subst hi2
   rw [List.getElem?_append_right (Nat.le_refl _),Nat.sub_self] at hx
   obtain rfl:u=x:=by simpa using hx
   rw [h.len,getD_last]
   exact (own_base (hu.alloc o) hlo).kept hg (own_ne row1 hu (by decide))
 ·have old:∀ i x g,i < us.length→us[i]? = some x→x.ownBlock=some g→g < W.heap.size:=fun i x g _ hx hg=>((h.each i x hx).lt g hg).2
  have new:∀ g,u.ownBlock=some g→W.heap.size≤g:=fun g hg=>(hu.lt g hg).1
  have at_:∀ i x,(us++[u])[i]? = some x→(i < us.length∧us[i]? = some x)∨(i=us.length∧x=u):=fun i x hx=>by
   rcases Nat.lt_or_ge i us.length with hi | hi
   ·rw [List.getElem?_append_left hi] at hx; exact .inl ⟨hi,hx⟩
   ·have hi2:i=us.length:=by
     have:=(List.getElem?_eq_some_iff.1 hx).1
     simp at this
     omega
    subst hi2
    rw [List.getElem?_append_right (Nat.le_refl _),Nat.sub_self] at hx
    exact .inr ⟨rfl,by simpa using hx.symm⟩
  intro hx2
  rcases at_ i x hx with ⟨h1,h2⟩ | ⟨h1,rfl⟩ <;> rcases at_ j x' hx' with ⟨h3,h4⟩ | ⟨h3,rfl⟩
  ·exact h.sep i j x x' g hij h2 h4 hxg hx2
  ·have:=old i x g h1 h2 hxg; have:=new g hx2; omega
  ·have:=old j x' g h3 h4 hx2; have:=new g hxg; omega
  ·omega
theorem rd_oneV (w:World) (u:Value) (t:TypeId):Rd (w.alloc (.cells #[u] t)) (.slice (some ⟨w.heap.size,0,none⟩) 1 1) [u]:=by
 refine ⟨_,1,rfl,Nat.le_refl _,by simp [maxLen],fun _=>⟨w.heap.size,0,rfl,by simp,fun i x hx=>?_⟩⟩
 have hi:=(List.getElem?_eq_some_iff.1 hx).1
 have hi0:i=0:=by simpa using hi
 subst hi0
 rw [World.cell?_alloc_at _ _ _ _ rfl]
 simpa using hx
theorem slice_one {A:Option Addr} {n c:Nat} : ∀ u∈[Value.slice A n c],u.oneCell' = true:=by
 intro u hu
 rw [List.mem_singleton.1 hu]
 rfl
end Go.Proofs.YtgaadpkefncnmaaGreatDoor
/-
  bytes.Clone, appendNum and the program's PutNum.
-/
namespace Go.Proofs.YtgaadpkefncnmaaGreatDoor
open Go.RowKit
set_option maxHeartbeats 400000 in
theorem appendNumOut (l:List Int) (v:Value) (n:Int) (lo:Nat) (w:World) (hv:w.ownsRow lo 5 1 v l.length (bs l)) (hn:n < 0∨2147483647 < n) :
  Calls Tryz.prog 255 #[v,.int .i64 n] w fun e w'=>∃ v',e=.returned v'∧w'.ownsRow lo 5 1 v' l.length (bs l)∧Below lo w w':=by
 have HV:=hide hv
 clear hv
 by_cases h0:n < 0
 all_goals
  go_enter Tryz.func255,Tryz.ntmps255
  go_wp2
  go_ret
  exact ⟨_,rfl,HV.out,Below.refl _ _⟩
set_option maxRecDepth 20000 in
set_option maxHeartbeats 800000 in
theorem appendNumIn (l:List Int) (v:Value) (n:Nat) (lo:Nat) (w:World) (hv:w.ownsRow lo 5 1 v l.length (bs l)) (hlo:lo≤w.heap.size) (hl:l.length≤1099511627776) (hn:n≤2147483647) :
  Calls Tryz.prog 255 #[v,.int .i64 n] w fun e w'=>∃ v',e=.returned v'∧w'.ownsRow lo 5 1 v' (l++vint n).length (bs (l++vint n))∧Below lo w w':=by
 obtain ⟨i0,hi0,hz0,hz1,hz2⟩:=info_parts u8info
 have HV:=hide hv
 clear hv
 go_enter Tryz.func255,Tryz.ntmps255
 go_wp2
 go_loopw [0,1] (fun v t wr=>∃ (m:Nat) (xs:List Int),m≤2147483647∧t=.int .i64 m∧wr.ownsRow lo 5 1 v xs.length (bs xs)∧Hid (xs++vint m=l++vint n)∧Below lo w wr)
  (fun _ t _=>(intOf t).toNat)
 case atStart=>exact ⟨n,l,hn,rfl,HV.out,hide rfl,Below.refl _ _⟩
 case round =>
  obtain ⟨m,xs,hm,rfl,hown,hx,hbel⟩:=hrel
  have hroom:=vint_room hn hx.out
  have hlo2:lo≤wr.heap.size:=Nat.le_trans hlo hbel.size
  have hor:bits .or .u8 ((m:Int) % 256) 128=(m:Int) % 128 + 128:=by rw [or128 (by omega) (by omega)]; omega
  have HO:=hide hor
  clear hor
  by_cases h128:m < 128
  ·go_wp2_with (at_builtin; refine wpList_app _ rfl (.tmp 22) (.tmp 25) _ rfl lo 5 i0 _ 1 Tryz.underlying39 hi0 hz0 hz1 hz2 rfl _ _ _ rfl (hown.alloc _) _ _ rfl (rd_one _ _ _) (bs_one _) (by rw [bs_length]; simp only [maxLen,List.length_singleton]; omega) (by rw [bs_length]; simp only [List.length_singleton]; omega) (by simp; omega) ?_; intro v3 w3 own3 gr3)
   go_ret
   refine ⟨_,rfl,own_len (own_cells own3 ?_) (by rw [bs_length,← hx.out,vint_last h128]; simp),?_⟩
   ·rw [← bs_append,← hx.out,vint_last h128]
   ·exact Below.row (hbel.alloc hlo2 _) (by simp; omega) (hown.alloc _) gr3
  ·go_wp2_with (at_builtin; refine wpList_app _ rfl (.tmp 16) (.tmp 20) _ rfl lo 5 i0 _ 1 Tryz.underlying39 hi0 hz0 hz1 hz2 rfl _ _ _ rfl (hown.alloc _) _ _ rfl (rd_one _ _ _) (bs_one _) (by rw [bs_length]; simp only [maxLen,List.length_singleton]; omega) (by rw [bs_length]; simp only [List.length_singleton]; omega) (by simp; omega) ?_; intro v3 w3 own3 gr3)
   go_roundw
   case rel=>exact ⟨m / 128,xs++[(m:Int) % 128 + 128],by omega,by go_num,own_len (own_cells own3 (by rw [HO.out,bs_append])) (by simp [bs]),hide (vint_step h128 hx.out),Below.row (hbel.alloc hlo2 _) (by simp; omega) (hown.alloc _) gr3⟩
   case measure=>simp [intOf]; omega
theorem appendNum (l:List Int) (v:Value) (n:Int) (lo:Nat) (w:World) (hv:w.ownsRow lo 5 1 v l.length (bs l)) (hlo:lo≤w.heap.size) (hl:l.length≤1099511627776) :
  Calls Tryz.prog 255 #[v,.int .i64 n] w fun e w'=>∃ v',e=.returned v'∧w'.ownsRow lo 5 1 v' (putNum l n).length (bs (putNum l n))∧Below lo w w':=by
 by_cases h:n < 0∨2147483647 < n
 ·rw [putNum,if_pos h]
  exact appendNumOut l v n lo w hv h
 ·rw [putNum,if_neg h]
  obtain ⟨k,rfl⟩:=Int.eq_ofNat_of_zero_le (by omega:0≤n)
  exact appendNumIn l v k lo w hv hlo hl (by omega)
theorem specPutNum (l:List Int) (v:Value) (n:Int) (w:World) (hv:Rd w v (bs l)) (hl:l.length≤1099511627776) :
  Calls Tryz.prog 211 #[v,.int .i64 n] w fun e w'=>∃ v',e=.returned v'∧Own 5 w.heap.size w'.heap.size w' v' (bs (putNum l n))∧Below w.heap.size w w':=by
 by_cases h:n < 0∨2147483647 < n
 ·rw [putNum,if_pos h]
  exact specPutNumOut l v n w hv hl h
 ·rw [putNum,if_neg h]
  obtain ⟨k,rfl⟩:=Int.eq_ofNat_of_zero_le (by omega:0≤n)
  exact specPutNumIn l v k w hv hl (by omega)
end Go.Proofs.YtgaadpkefncnmaaGreatDoor
/-
  Rows that a call makes by append, and what their cells read as; elements that are read.
-/
namespace Go.Proofs.YtgaadpkefncnmaaGreatDoor
open Go.RowKit
set_option linter.unusedVariables false
/-- The datum lies in the cells, wherever. -/
def Ins (w:World) (cs:List Cel) (us:List Value):Prop:=∃ F,Lies w cs us F
def In1 (w:World) (c:Cel) (v:Value):Prop:=∃ F,Lie w c v F
theorem Ins.step {w w' : World} {cs:List Cel} {us:List Value} (h:Ins w cs us) (hb:Below w.heap.size w w'):Ins w' cs us:=h.elim fun F h=>⟨F,h.step hb⟩
theorem In1.step {w w' : World} {c:Cel} {v:Value} (h:In1 w c v) (hb:Below w.heap.size w w'):In1 w' c v:=h.elim fun F h=>⟨F,h.step hb⟩
/-- A row of the call's own, and what its cells read as. -/
def Row (lo:Nat) (w:World) (e:TypeId) (sz n:Nat) (cs:List Cel) (v:Value) (F:List Nat):Prop :=
 sz≤64∧∃ us,w.ownsRow lo e sz v n us∧Lies w cs us F∧∀ g∈F,v.ownBlock≠some g
theorem Row.nil (lo:Nat) (w:World) (e:TypeId) (sz:Nat) (h:sz≤64):Row lo w e sz 0 [] (.slice none 0 0) [] :=
 ⟨h,[],World.ownsRow_nil _ _ _ _,lies_nil w,fun _ h=>by cases h⟩
theorem Row.lit0 (w:World) (e:TypeId) (sz:Nat) (h:sz≤64):Row w.heap.size (w.alloc (.cells #[] e)) e sz 0 [] (.slice (some ⟨w.heap.size,0,none⟩) 0 0) [] :=
 ⟨h,[],World.ownsRow_lit w #[] 0 (Nat.le_refl _) (Nat.zero_le _) (by simp),lies_nil _,fun _ h=>by cases h⟩
theorem Row.step {lo:Nat} {w w' : World} {e:TypeId} {sz n:Nat} {cs:List Cel} {v:Value} {F:List Nat} (h:Row lo w e sz n cs v F) (hb:Below w.heap.size w w'):Row lo w' e sz n cs v F:=by
 obtain ⟨h0,us,h1,h2,h3⟩:=h
 refine ⟨h0,us,⟨h1.1,?_⟩,h2.step hb,h3⟩
 rcases h1.2 with hn | ⟨g,cap,cur,rfl,hbg,hg,rest⟩
 ·exact .inl hn
 ·exact .inr ⟨g,cap,cur,rfl,hbg,by rw [hb.block g (Array.getElem?_eq_some_iff.1 hg).1]; exact hg,rest⟩
theorem Row.base {lo lo' : Nat} {w:World} {e:TypeId} {sz n:Nat} {cs:List Cel} {v:Value} {F:List Nat} (h:Row lo w e sz n cs v F) (hl:lo'≤lo):Row lo' w e sz n cs v F:=by
 obtain ⟨h0,us,h1,h2,h3⟩:=h
 refine ⟨h0,us,⟨h1.1,?_⟩,h2,h3⟩
 rcases h1.2 with hn | ⟨g,cap,cur,rfl,hbg,hg,rest⟩
 ·exact .inl hn
 ·exact .inr ⟨g,cap,cur,rfl,Nat.le_trans hl hbg,hg,rest⟩
theorem Row.form {lo:Nat} {w:World} {e:TypeId} {sz n:Nat} {cs:List Cel} {v:Value} {F:List Nat} (h:Row lo w e sz n cs v F):∃ A c,v=.slice A n c∧n≤c∧c≤maxLen:=by
 obtain ⟨h0,us,h1,h2,h3⟩:=h
 rcases h1.2 with ⟨rfl,rfl⟩ | ⟨g,cap,cur,rfl,hbg,hg,hn,hc,_⟩
 ·exact ⟨none,0,rfl,Nat.le_refl _,Nat.zero_le _⟩
 ·exact ⟨_,cap,rfl,hn,hc⟩
theorem Row.low {lo:Nat} {w:World} {e:TypeId} {sz n:Nat} {cs:List Cel} {v:Value} {F:List Nat} (h:Row lo w e sz n cs v F):∀ g,v.ownBlock=some g→lo≤g∧g < w.heap.size:=by
 obtain ⟨h0,us,h1,h2,h3⟩:=h
 exact h1.lt
theorem Row.lie {lo:Nat} {w:World} {e:TypeId} {sz n:Nat} {cs:List Cel} {v:Value} {F:List Nat} (h:Row lo w e sz n cs v F):Lie w (.seq sz n cs) v (blk v++F):=by
 obtain ⟨h0,us,h1,h2,h3⟩:=h
 rw [Lie]
 refine ⟨h0,us,F,?_,h2,rfl⟩
 rcases h1.2 with ⟨rfl,rfl⟩ | ⟨g,cap,cur,rfl,hbg,hg,hn,hc,hs,ht⟩
 ·exact ⟨none,0,rfl,Nat.le_refl _,Nat.zero_le _,h1.1,fun h=>by omega⟩
 ·refine ⟨_,cap,rfl,hn,hc,h1.1,fun _=>⟨g,0,rfl,(Array.getElem?_eq_some_iff.1 hg).1,fun j u hu=>?_⟩⟩
  have hj:j < n * sz:=by
   have:=(List.getElem?_eq_some_iff.1 hu).1
   have:=h1.1
   omega
  rw [Nat.zero_add,h1.cellAt j hj]
  exact hu
theorem Row.in1 {lo:Nat} {w:World} {e:TypeId} {sz n:Nat} {cs:List Cel} {v:Value} {F:List Nat} (h:Row lo w e sz n cs v F):In1 w (.seq sz n cs) v:=⟨_,h.lie⟩
/-- Both the row's own block and its elements' are above a bound. -/
theorem Row.above {lo:Nat} {w:World} {e:TypeId} {sz n:Nat} {cs:List Cel} {v:Value} {F:List Nat} (h:Row lo w e sz n cs v F) (hF:∀ g∈F,lo≤g):∀ g∈blk v++F,lo≤g:=by
 intro g hg
 rcases List.mem_append.1 hg with hg | hg
 ·obtain ⟨h0,us,h1,h2,h3⟩:=h
  rcases h1.2 with ⟨rfl,rfl⟩ | ⟨b,cap,cur,rfl,hbg,_⟩
  ·simp [blk] at hg
  ·rcases Nat.eq_zero_or_pos n with rfl | hn
   ·rw [blk_none] at hg; cases hg
   ·rw [blk_some hn] at hg
    rw [List.mem_singleton.1 hg]
    exact hbg
 ·exact hF g hg
/-- Blocks that are older than a row, or younger than its world, are not its own. -/
theorem Row.far {lo:Nat} {w:World} {e:TypeId} {sz n:Nat} {cs:List Cel} {v:Value} {F:List Nat} (h:Row lo w e sz n cs v F) {G:List Nat} (hG:∀ g∈G,g < lo∨w.heap.size≤g):∀ g∈G,v.ownBlock≠some g:=fun g hg e=>by
 have:=h.low g e
 have:=hG g hg
 omega
/-- One element, laid into a block of its own for append. -/
theorem one_rdc (w:World) {us:List Value} {sz:Nat} (t:TypeId) (hs:us.length=sz):Rdc (w.alloc (.cells us.toArray t)) (.slice (some ⟨w.heap.size,0,none⟩) 1 1) sz 1 us :=
 ⟨_,1,rfl,Nat.le_refl _,by simp [maxLen],by omega,fun _=>⟨w.heap.size,0,rfl,by simp,fun j u hu=>by
  rw [Nat.zero_add]
  exact (Box.new w us t).cell hu⟩⟩
theorem run_rowapp {P:Program} (w:World) (lo:Nat) (t ty e:TypeId) (z:Value) (sz bytes:Nat) (ht:P.underlying t=some (.slice e)) (hi:(P.info? e).map (fun i=>(i.zero,i.size,i.bytes))=some (some z,sz,bytes)) (hzs:z.cells.size=sz) (hsz:0 < sz)
  (v:Value) (n:Nat) (cs:List Cel) (F:List Nat) (hR:Row lo w e sz n cs v F) (y:Value) (m:Nat) (ys:List Value) (ms:List Cel) (G:List Nat) (hr:Rdc w y sz m ys) (hly:Lies w ms ys G) (hd:∀ g∈G,v.ownBlock≠some g)
  (h63:n + m≤maxLen) (hbytes:(n + m) * bytes≤140737488355328) (hbase:lo≤w.heap.size) :
  ∃ v' w',(Builtin.append_ #[t,t] ty #[v,y]).run P w=.ok v' w'∧Row lo w' e sz (n + m) (cs++ms) v' (F++G)∧w.grownBy w' v.ownBlock:=by
 obtain ⟨i,hi',hz,hs,hb⟩:∃ i,P.info? e=some i∧i.zero=some z∧i.size=sz∧i.bytes=bytes:=by
  cases h:P.info? e with
  | none=>rw [h] at hi; cases hi
  | some i =>
    rw [h] at hi
    simp only [Option.map_some,Option.some.injEq,Prod.mk.injEq] at hi
    exact ⟨i,rfl,hi.1,hi.2.1,hi.2.2⟩
 obtain ⟨h0,us,h1,h2,h3⟩:=hR
 obtain ⟨A,c,rfl,hc1,hc2,hl,hcell⟩:=hr
 have fin:∀ v' w',w'.ownsRow lo e sz v' (n + m) (us++ys)→w.grownBy w' v.ownBlock→(v'.ownBlock=v.ownBlock∨v'.ownBlock=some w.heap.size)→Row lo w' e sz (n + m) (cs++ms) v' (F++G):=by
  intro v' w' ho hg hv
  have hlt:∀ g∈F++G,g < w.heap.size∧v.ownBlock≠some g:=fun g hgm=>by
   rcases List.mem_append.1 hgm with hgm | hgm
   ·exact ⟨h2.lt g hgm,h3 g hgm⟩
   ·exact ⟨hly.lt g hgm,hd g hgm⟩
  refine ⟨h0,us++ys,ho,(h2.append hly).keep hg.size fun g hgm=>hg.block g (hlt g hgm).1 fun e=>(hlt g hgm).2 e.symm,fun g hgm e=>?_⟩
  rcases hv with hv | hv
  ·exact (hlt g hgm).2 (hv ▸ e)
  ·have:=(hlt g hgm).1
   rw [hv] at e
   injection e with e
   omega
 cases A with
 | none =>
   have hm0:m=0:=by
    rcases Nat.eq_zero_or_pos m with h | h
    ·exact h
    ·obtain ⟨b,off,hA,_⟩:=hcell h
     cases hA
   subst hm0
   have hys:ys = []:=List.eq_nil_of_length_eq_zero (by omega)
   subst hys
   refine ⟨v,w,?_,fin v w (by simpa using h1) (World.grownBy.refl w _) (.inl rfl),World.grownBy.refl w _⟩
   rcases h1.2 with ⟨rfl,rfl⟩ | ⟨g,cap,cur,rfl,_,_,hnc,_⟩
   ·simp [Builtin.append_,run_underlying ht,sizeOf,typeInfo,hi',Builtin.lenOf,Builtin.firstCells]
   ·simp [Builtin.append_,run_underlying ht,sizeOf,typeInfo,hi',Builtin.lenOf,Builtin.firstCells,hnc,storeCells]
 | some ad =>
   have hcells:∀ j u,ys[j]? = some u→w.cell? (ad.add j)=some u:=by
    intro j u hu
    have hj:=(List.getElem?_eq_some_iff.1 hu).1
    have hm:0 < m:=by
     rcases Nat.eq_zero_or_pos m with rfl | h
     ·omega
     ·exact h
    obtain ⟨b,off,hA,_,hc⟩:=hcell hm
    injection hA with hA
    subst hA
    rw [Addr.add_lit]
    exact hc j u hu
   obtain ⟨v',w',hrun,k2,k3,_,k4⟩:=run_append_own_at (P:=P) w lo t ty e i z sz bytes ht hi' hz hs hb hzs hsz v n us h1 ad m c ys hl hcells hly.one h63 hbytes hbase
   exact ⟨v',w',hrun,fin v' w' k2 k3 k4,k3⟩
/-- append of a slice, inside a walk. -/
theorem wpList_rowapp {P:Program} {w:World} {ops:Array Oper} {rest:List Oper} {o:Oper} {a:Act} {Q:Exit→Act→World→Prop} (hgd:o.guard=none) {s x:Operand} {t:TypeId}
  (ho:o.op=.call { callee:=.builtin .append,args:=#[s,x],argTypes:=#[t,t] })
  {lo:Nat} {e:TypeId} {z:Value} {sz bytes:Nat} {v:Value} {n:Nat} {cs:List Cel} {F:List Nat} {y:Value} {m:Nat} {ys:List Value} {ms:List Cel} {G:List Nat}
  (hR:Row lo w e sz n cs v F) (hr:Rdc w y sz m ys) (hy:Lies w ms ys G) (hd:∀ g∈G,v.ownBlock≠some g) (hs:a.eval s=v) (hx:a.eval x=y)
  (ht:P.underlying t=some (.slice e)) (hi:(P.info? e).map (fun i=>(i.zero,i.size,i.bytes))=some (some z,sz,bytes)) (hzs:z.cells.size=sz) (hsz:0 < sz)
  (hb2:bytes≤512) (hn:n + m≤274877906944) (hbase:lo≤w.heap.size)
  (h:∀ v' w',Row lo w' e sz (n + m) (cs++ms) v' (F++G)→Below lo w w'→w.grownBy w' v.ownBlock→wpList P ops Q rest (a.put o.dst v') w'):wpList P ops Q (o :: rest) a w:=by
 refine wpList_plain hgd fun K hK=>?_
 have hbytes:(n + m) * bytes≤140737488355328:=Nat.le_trans (Nat.mul_le_mul hn hb2) (by decide)
 obtain ⟨v',w',hrun,h2,h4⟩:=run_rowapp (P:=P) w lo t o.type e z sz bytes ht hi hzs hsz v n cs F hR y m ys ms G hr hy hd (by unfold maxLen; omega) hbytes hbase
 unfold Oper.wp execOp
 simp only [ho,resolve,invoke,builtin,Sem.run_bind,Sem.run_pure,Result.andThen_ok,List.map_toArray,List.map_cons,List.map_nil,hs,hx,hrun]
 exact hK _ _ (h v' w' h2 ((Below.refl lo w).grown h4 hbase fun g hgk=>(hR.low g hgk).1) h4)
/-- append of one element, inside a walk: the element was laid into a block of its own. -/
theorem wpList_row1 {P:Program} {w0:World} {ops:Array Oper} {rest:List Oper} {o:Oper} {a:Act} {Q:Exit→Act→World→Prop} (hgd:o.guard=none) {s x:Operand} {t:TypeId}
  (ho:o.op=.call { callee:=.builtin .append,args:=#[s,x],argTypes:=#[t,t] })
  {lo:Nat} {e te:TypeId} {z:Value} {sz bytes:Nat} {v:Value} {n:Nat} {cs:List Cel} {F:List Nat} {us:List Value} {ms:List Cel} {G:List Nat}
  (hR:Row lo w0 e sz n cs v F) (hy:Lies w0 ms us G) (hd:∀ g∈G,v.ownBlock≠some g) (hms:ms.length=sz) (hs:a.eval s=v) (hx:a.eval x=.slice (some ⟨w0.heap.size,0,none⟩) 1 1)
  (ht:P.underlying t=some (.slice e)) (hi:(P.info? e).map (fun i=>(i.zero,i.size,i.bytes))=some (some z,sz,bytes)) (hzs:z.cells.size=sz) (hsz:0 < sz)
  (hb2:bytes≤512) (hn:n + 1≤274877906944) (hbase:lo≤w0.heap.size)
  (h:∀ v' w',Row lo w' e sz (n + 1) (cs++ms) v' (F++G)→Below lo w0 w'→(w0.alloc (.cells us.toArray te)).grownBy w' v.ownBlock→wpList P ops Q rest (a.put o.dst v') w'):wpList P ops Q (o :: rest) a (w0.alloc (.cells us.toArray te)):=by
 have ba:Below w0.heap.size w0 (w0.alloc (.cells us.toArray te)):=(Below.refl _ _).alloc (Nat.le_refl _) _
 refine wpList_rowapp hgd ho (hR.step ba) (one_rdc w0 te (by rw [hy.len]; exact hms)) (hy.step ba) hd hs hx ht hi hzs hsz hb2 hn (Nat.le_trans hbase ba.size) fun v' w' h1 h2 h3=>h v' w' h1 ((ba.mono hbase).trans h2) h3
/-- append of a slice, in a region that draws. -/
theorem step_rowapp {P:Program} {w:World} {ops:Array Oper} {o:Oper} {a:Act} {K:Act→World→Prop} {Q:Exit→Act→World→Prop} {E:Prop} (hgd:o.guard=none) {s x:Operand} {t:TypeId}
  (ho:o.op=.call { callee:=.builtin .append,args:=#[s,x],argTypes:=#[t,t] })
  {lo:Nat} {e:TypeId} {z:Value} {sz bytes:Nat} {v:Value} {n:Nat} {cs:List Cel} {F:List Nat} {y:Value} {m:Nat} {ys:List Value} {ms:List Cel} {G:List Nat}
  (hR:Row lo w e sz n cs v F) (hr:Rdc w y sz m ys) (hy:Lies w ms ys G) (hd:∀ g∈G,v.ownBlock≠some g) (hs:a.eval s=v) (hx:a.eval x=y)
  (ht:P.underlying t=some (.slice e)) (hi:(P.info? e).map (fun i=>(i.zero,i.size,i.bytes))=some (some z,sz,bytes)) (hzs:z.cells.size=sz) (hsz:0 < sz)
  (hb2:bytes≤512) (hn:n + m≤274877906944) (hbase:lo≤w.heap.size)
  (h:∀ v' w',Row lo w' e sz (n + m) (cs++ms) v' (F++G)→Below lo w w'→w.grownBy w' v.ownBlock→K (a.put o.dst v') w'):if Region.wanted o (yielded ops a.tmps)=true then Oper.wp P o a w K Q else E:=by
 have hw:Region.wanted o (yielded ops a.tmps)=true:=by simp [Region.wanted,hgd]
 rw [if_pos hw]
 have hbytes:(n + m) * bytes≤140737488355328:=Nat.le_trans (Nat.mul_le_mul hn hb2) (by decide)
 obtain ⟨v',w',hrun,h2,h4⟩:=run_rowapp (P:=P) w lo t o.type e z sz bytes ht hi hzs hsz v n cs F hR y m ys ms G hr hy hd (by unfold maxLen; omega) hbytes hbase
 unfold Oper.wp execOp
 simp only [ho,resolve,invoke,builtin,Sem.run_bind,Sem.run_pure,Result.andThen_ok,List.map_toArray,List.map_cons,List.map_nil,hs,hx,hrun]
 exact h v' w' h2 ((Below.refl lo w).grown h4 hbase fun g hgk=>(hR.low g hgk).1) h4
/-- The text that a row of bytes reads as. -/
theorem Row.raw {lo:Nat} {w:World} {e:TypeId} {l:List Int} {v:Value} {F:List Nat} (h:Row lo w e 1 l.length (l.map (Cel.num .u8)) v F):Rd w v (bs l):=h.lie.rd.1
theorem Rd.rdcT {w:World} {v:Value} {l:List Int} (h:Rd w v (bs l)):Rdc w v 1 l.length (bs l):=h.rdc (bs_length l).symm
theorem Row.lit0D (w:World) (e:TypeId) (sz:Nat) (h:sz≤64):Row w.heap.size (w.alloc (.cells #[] e)).drew e sz 0 [] (.slice (some ⟨w.heap.size,0,none⟩) 0 0) []:=(Row.lit0 w e sz h).step (Below.refl _ _).drew
theorem Row.clone {lo:Nat} {w:World} {e:TypeId} {l:List Int} {v:Value} (h:Row lo w e 1 (0 + l.length) ([]++l.map (Cel.num .u8)) v ([]++[])):Row lo w e 1 l.length (l.map (Cel.num .u8)) v []:=by
 rw [Nat.zero_add,List.nil_append,List.nil_append] at h
 exact h
theorem far0 (v:Value):∀ g∈([]:List Nat),v.ownBlock≠some g:=fun _ h=>by cases h
theorem belNew (w:World) (o:Obj):Below w.heap.size w (w.alloc o):=(Below.refl _ _).alloc (Nat.le_refl _) o
theorem belNewD (w:World) (o:Obj):Below w.heap.size w (w.alloc o).drew:=((Below.refl _ _).alloc (Nat.le_refl _) o).drew
theorem lowNewD (w:World) (o:Obj):w.heap.size≤(w.alloc o).drew.heap.size:=(belNewD w o).size
/-! ### Elements that are read -/
/-- The j-th element's cells. -/
theorem Lie.elem {α:Type} {f:α→List Cel} {sz:Nat} (hf:∀ x,(f x).length=sz) {w:World} {l:List α} {v:Value} {F:List Nat} (h:Lie w (seqOf sz f l) v F) {j:Nat} (hj:j < l.length) :
  ∃ b off c us Fj,v=.slice (some ⟨b,off,none⟩) l.length c∧b < w.heap.size∧w.rangeAt b (off + j * sz) us∧Lies w (f l[j]) us Fj∧∀ g∈Fj,g∈F:=by
 rw [Lie] at h
 obtain ⟨_,us,F2,⟨A,c,rfl,_,_,hl,hc⟩,h2,rfl⟩:=h
 obtain ⟨b,off,rfl,hb,hr⟩:=hc (by omega)
 rw [cells_split f l j,cells_drop f hj] at h2
 obtain ⟨ua,ub,Fa,Fb,rfl,rfl,k1,k2⟩:=h2.parts
 obtain ⟨uc,ud,Fc,Fd,rfl,rfl,k3,k4⟩:=k2.parts
 refine ⟨b,off,c,uc,Fc,rfl,hb,fun q u hu=>?_,k3,fun g hg=>by simp [hg]⟩
 have hla:ua.length=j * sz:=by rw [k1.len,cells_len hf,List.length_take,Nat.min_eq_left (by omega)]
 have:=hr (j * sz + q) u (by
  rw [List.getElem?_append_right (by omega),hla,Nat.add_sub_cancel_left,List.getElem?_append_left (List.getElem?_eq_some_iff.1 hu).1]
  exact hu)
 rwa [← Nat.add_assoc] at this
end Go.Proofs.YtgaadpkefncnmaaGreatDoor
/-
  The laws' measure of trees.
-/
namespace Go.Proofs.YtgaadpkefncnmaaGreatDoor
open Go.RowKit
set_option linter.unusedVariables false
/-- What is left of a measure. -/
def rest (left:Int) (n:Nat):Int:=if (n:Int)≤left then left - n else -1
end Go.Proofs.YtgaadpkefncnmaaGreatDoor
/-
  Rows of texts that are valid and ascending, in plain numbers.
-/
namespace Go.Proofs.YtgaadpkefncnmaaGreatDoor
open Go.RowKit
set_option linter.unusedVariables false
/-- The k-th text is valid, and comes behind the one before it. -/
def nameP (p:List Int→Bool) (ns:List (List Int)) (k:Nat):Bool:=p (ns.getD k []) && (decide (k=0) || lessL (ns.getD (k - 1) []) (ns.getD k []))
def ascPF (p:List Int→Bool) (ns:List (List Int)):Nat→Nat→Bool
 | 0,_=>true
 | f + 1,k=>nameP p ns k && ascPF p ns f (k + 1)
def ascP (p:List Int→Bool) (ns:List (List Int)):Bool:=ascPF p ns ns.length 0
theorem ascPF_more {p:List Int→Bool} {ns:List (List Int)} {k:Nat} (h:k < ns.length):ascPF p ns (ns.length - k) k=(nameP p ns k && ascPF p ns (ns.length - (k + 1)) (k + 1)):=by
 have e:ns.length - k=(ns.length - (k + 1)) + 1:=by omega
 rw [e,ascPF]
theorem below_eq {w w' : World} (h:w=w'):Below w.heap.size w w':=h ▸ Below.refl _ _
theorem ascP_at {p:List Int→Bool} {ns:List (List Int)} : ascP p ns=true↔∀ m,m < ns.length→nameP p ns m=true:=by
 have key:∀ f k,f + k=ns.length→(ascPF p ns f k=true↔∀ m,k≤m→m < ns.length→nameP p ns m=true):=by
  intro f
  induction f with
  | zero=>intro k hk; rw [ascPF]; exact ⟨fun _ m h1 h2=>by omega,fun _=>rfl⟩
  | succ f ih =>
    intro k hk
    rw [ascPF,Bool.and_eq_true,ih (k + 1) (by omega)]
    exact ⟨fun ⟨h1,h2⟩ m h3 h4=>by
     by_cases h:m=k
     ·subst h; exact h1
     ·exact h2 m (by omega) h4,fun h=>⟨h k (Nat.le_refl _) (by omega),fun m h1 h2=>h m (by omega) h2⟩⟩
 rw [ascP,key ns.length 0 (by omega)]
 exact ⟨fun h m hm=>h m (Nat.zero_le _) hm,fun h m _ hm=>h m hm⟩
end Go.Proofs.YtgaadpkefncnmaaGreatDoor
/-
  copyTexts.
-/
namespace Go.Proofs.YtgaadpkefncnmaaGreatDoor
open Go.RowKit
set_option linter.unusedVariables false
theorem names_len {w:World} {v:Value} {ns:List (List Int)} (hn:RdN w v ns):∃ (A:Option Addr) (c:Nat),v=.slice A ns.length c∧ns.length≤c∧c≤maxLen:=by
 obtain ⟨vs,⟨A,c,e,h1,h2,_⟩,h4,_⟩:=hn
 rw [h4] at e h1
 exact ⟨A,c,e,h1,h2⟩
set_option maxRecDepth 20000 in
set_option maxHeartbeats 1600000 in
theorem copyAllB (ns:List (List Int)) (v:Value) (w:World) (hv:RdN w v ns) (hn:ns.length≤1048576) (hl:∀ n∈ns,n.length≤1048576) :
  Calls Tryz.prog 128 #[v,.func (.func 129) #[] #[]] w fun e w'=>∃ v',e=.returned v'∧OwnS w.heap.size w' v' ns∧Below w.heap.size w w':=by
 obtain ⟨i0,hi0,hz0,hz1,hz2⟩:=info_parts namesInfo5
 obtain ⟨A,c,rfl,hc1,hc2⟩:=names_len hv
 obtain ⟨N,hN⟩:∃ N,ns.length=N:=⟨_,rfl⟩
 rw [hN] at hc1 hv hn ⊢
 unfold maxLen at hc2
 have HNL:=hide hN
 have HNN:=hide hv
 have HLL:=hide hl
 clear hN hv hl
 go_enter Tryz.func128,Tryz.ntmps128
 go_wp2
 go_loopw [5,10] (fun u i wr=>∃ j:Nat,j≤N∧i=.int .i64 j∧Hid (OwnS w.heap.size wr u (ns.take j))∧Below w.heap.size w wr)
  (fun _ i _=>N - (intOf i).toNat)
 case atStart=>exact ⟨0,Nat.zero_le _,rfl,hide (OwnS.nil _ _),Below.refl _ _⟩
 case round =>
  obtain ⟨j,hj,rfl,HO,hbel⟩:=hrel
  have HB:=hide hbel
  by_cases hlt:j < N
  ·have hjn:j < ns.length:=by rw [HNL.out]; exact hlt
   obtain ⟨b,off,x,hA',hblt,cx,rx⟩:=HNN.out.get hjn
   subst hA'
   have q1:=(hbel.cell (p:=⟨b,off + j,none⟩) hblt).trans cx
   have rr1:=rx.below hbel
   have hmj:ns.getD j []∈ns:=by simp [List.getD,List.getElem?_eq_getElem hjn]
   have hlj:=HLL.out _ hmj
   obtain ⟨us,hU⟩:=HO.out
   have hul:us.length=j:=by rw [hU.len,List.length_take]; omega
   have htk:ns.take (j + 1)=ns.take j++[ns.getD j []]:=by
    rw [List.take_succ_eq_append_getElem hjn]
    simp [List.getD,List.getElem?_eq_getElem hjn]
   generalize ns.getD j []=n at *
   have hcl:=clone n x wr rr1 (by omega)
   have HC:=hide hcl
   have HU:=hide hU
   have HT:=hide htk
   have HUL:=hide hul
   have hlw:w.heap.size≤wr.heap.size:=hbel.size
   have k1:(j:Int) < (N:Int):=by omega
   clear hcl hU htk hul HO cx rx rr1 hbel
   go_wp2_with fail
   refine HC.out.mono ?_
   rintro e w2 ⟨u2,rfl,o2,b2⟩
   have row2:=hide (own_step HU.out.row b2)
   have hl2:w.heap.size≤w2.heap.size:=Nat.le_trans hlw b2.size
   have hz:=hide b2.size
   obtain ⟨A2,c2,hu2,-,-⟩:=own_slice o2
   subst hu2
   have HB2:=hide b2
   have HO2:=hide o2
   clear b2 o2 q1
   go_wp2_with (at_builtin; refine wpList_app _ rfl (.tmp 14) (.tmp 18) _ rfl w.heap.size 39 i0 _ 24 Tryz.underlying23 hi0 hz0 hz1 hz2 rfl _ _ _ rfl (row2.out.alloc _) _ _ rfl (rd_oneV _ _ _) slice_one (by rw [HUL.out]; simp [maxLen]; omega) (by rw [HUL.out]; simp; omega) (by simp; omega) ?_; intro v3 w3 own3 gr3)
   have hs:=HU.out.snoc HB2.out HO2.out hlw _ own3 gr3
   have hS:OwnS w.heap.size w3 v3 (ns.take (j + 1)):=by rw [HT.out]; exact ⟨_,hs⟩
   have hb3:Below w.heap.size w w3:=Below.row ((HB.out.trans (HB2.out.mono HB.out.size)).alloc hl2 _) (by simp; omega) (row2.out.alloc _) gr3
   have HS:=hide hS
   have HB3:=hide hb3
   clear hs hS hb3 own3 gr3
   go_roundw
   case rel=>exact ⟨j + 1,by omega,by go_num,HS,HB3.out⟩
   case measure=>simp [intOf]; omega
  ·obtain rfl:j=N:=by omega
   have e2:ns.take j=ns:=List.take_of_length_le (by rw [HNL.out]; omega)
   rw [e2] at HO
   clear hbel e2
   go_wp2
   go_ret
   exact ⟨_,rfl,HO.out,HB.out⟩
set_option maxRecDepth 20000 in
set_option maxHeartbeats 1600000 in
theorem copyTexts (ns:List (List Int)) (v:Value) (w:World) (hv:RdN w v ns) (hn:ns.length≤1048576) (hl:∀ n∈ns,n.length≤1048576) :
  Calls Tryz.prog 70 #[v] w fun e w'=>∃ v',e=.returned v'∧OwnS w.heap.size w' v' ns∧Below w.heap.size w w':=by
 have HC:=hide (copyAllB ns v w hv hn hl)
 clear hv hn hl
 go_enter Tryz.func70,Tryz.ntmps70
 go_wp2_with fail
 refine HC.out.mono ?_
 rintro e w2 ⟨u2,rfl,o2,b2⟩
 have HO:=hide o2
 have HB:=hide b2
 clear o2 b2
 go_wp2_with fail
 go_ret
 exact ⟨_,rfl,HO.out,HB.out⟩
end Go.Proofs.YtgaadpkefncnmaaGreatDoor
/-
  Marks over rows of bytes, names, trees.
-/
namespace Go.Proofs.YtgaadpkefncnmaaGreatDoor
open Go.RowKit
set_option linter.unusedVariables false
set_option maxRecDepth 20000 in
set_option maxHeartbeats 1600000 in
theorem dmarkBytes (l:List Int):MarkC Tryz.prog 28 (seqOf 1 (fun x=>[Cel.num .u8 x]) l):=by
 unfold seqOf
 intro v F s w h hnd hlv hs0 hs1
 have h0:=h
 obtain ⟨F2,hF,hm0⟩:=MarkL.start h hnd hlv s
 rw [Lie] at h
 obtain ⟨_,us,F3,⟨A,c,hv,hc1,hc2,hul,_⟩,_,_⟩:=h
 obtain ⟨N,hN⟩:∃ N,l.length=N:=⟨_,rfl⟩
 obtain ⟨g,hg⟩:∃ g:Int→List Cel,(fun x=>[Cel.num .u8 x])=g:=⟨_,rfl⟩
 have hgx:∀ x,g x = [.num .u8 x]:=fun x=>by subst hg; exact rfl
 rw [hg] at hm0 h0 hs1 ⊢
 rw [Cel.cnt] at hs1 ⊢
 rw [hN] at hv hc1 hm0 h0 ⊢
 obtain ⟨S,hS⟩:∃ S,cnts (cells g l)=S:=⟨_,rfl⟩
 rw [hS] at hs1 ⊢
 unfold maxLen at hc2
 have STOP:=fun wr (hm:MarkL w v s F2 N (cells g l) [] wr)=>MarkL.stop h0 hF hlv hm
 have HST:=hide STOP
 have HS:=hide hS
 have HN:=hide hN
 have HG:=hide hgx
 have HM0:=hide hm0
 subst hv
 clear STOP hS hN hg hgx hm0 h0 hul hnd hlv hF
 go_enter Tryz.func28,Tryz.ntmps28
 go_wp2
 go_loopw [1,5] (fun q i wr=>∃ j z:Nat,j≤N∧i=.int .i64 j∧q=.int .i64 (s + z)∧z≤S∧Hid (cnts (cells g (l.take j))=z∧MarkL w (.slice A N c) s F2 N (cells g (l.take j)) (cells g (l.drop j)) wr))
  (fun _ i _=>N - (intOf i).toNat)
 case atStart=>exact ⟨0,0,Nat.zero_le _,rfl,by go_num,Nat.zero_le _,hide ⟨by simp [cells,cnts],HM0.out⟩⟩
 case round =>
  obtain ⟨j,z,hj,rfl,rfl,hzS,HR⟩:=hrel
  by_cases hlt:j < N
  ·obtain ⟨hz,hml⟩:=HR.out
   obtain ⟨b,off,c',us',hv,P0⟩:=hml.2 (by omega)
   injection hv with hv1 _ hv2
   subst hv1
   have hjn:j < l.length:=by rw [HN.out]; exact hlt
   have htk:=cells_take g hjn
   have hlen:j * 1=(cells g (l.take j)).length:=by rw [cells_len (sz:=1) (by intro x; rw [HG.out]; rfl),List.length_take]; omega
   rw [cells_drop g hjn] at P0
   obtain ⟨x,hxe⟩:∃ x,l[j]=x:=⟨_,rfl⟩
   have hmem:x∈l:=hxe ▸ List.getElem_mem hjn
   rw [hxe,HG.out x] at P0 htk
   have hz2:=congrArg cnts htk
   rw [cnts_app,hz] at hz2
   have hz3:cnts (cells g (l.take (j + 1)))≤S:=by
    rw [← HS.out,cells_split g l (j + 1),cnts_app]; omega
   rw [hz2] at hz3
   simp only [cnts] at hz3 hz2
   simp only [num_cnt] at hz2 hz3
   simp only [List.cons_append,List.nil_append] at P0
   have HTK:=hide htk
   have HZ2:=hide hz2
   have HLEN:=hide hlen
   have HZ:=hide hz
   have k1:(j:Int) < (N:Int):=by omega
   clear htk hz2 hlen hz hml HR hjn hv2 hxe
   obtain ⟨c0,f0,us0,P1⟩:=P0.num (p:=j * 1) HLEN.out (y:=(s + z) % 256) (by rw [mk1_u8,HZ.out])
   rw [Nat.mul_one] at c0 f0 P1
   try simp only [← Nat.add_assoc] at c0 f0 P1
   obtain ⟨W0,hW0⟩:∃ W,wr.setCell ⟨b,off + j,none⟩ (.int .u8 ((s + z) % 256))=W:=⟨_,rfl⟩
   rw [hW0] at P1
   have HW0:=hide hW0
   clear hW0 P0
   have fin:=MarkL.round (n:=N) (by omega) rfl P1 (c:=c)
   try simp only [List.append_assoc,List.cons_append,List.nil_append] at fin
   rw [← HTK.out] at fin
   have FIN:=hide (And.intro (HZ2.out.trans (show _=z + (1) by omega)) fin)
   clear fin P1 HTK HZ2 HLEN HZ
   go_wp2_with fail
   rw [HW0.out]
   go_roundw
   case rel=>exact ⟨j + 1,z + (1),by omega,by go_num,by go_num,by omega,FIN⟩
   case measure=>simp [intOf]; omega
  ·obtain rfl:j=N:=by omega
   obtain ⟨hz,hml⟩:=HR.out
   rw [List.take_of_length_le (by rw [HN.out]; omega)] at hz hml
   rw [List.drop_eq_nil_of_le (by rw [HN.out]; omega)] at hml
   rw [HS.out] at hz
   subst hz
   have FIN:=hide (HST.out wr hml)
   clear hml HR
   go_wp2
   go_ret
   exact ⟨rfl,FIN.out⟩
theorem dmarkRaw (l:List Int):MarkC Tryz.prog 28 (raw l):=by rw [raw_eq]; exact dmarkBytes l
set_option maxRecDepth 20000 in
set_option maxHeartbeats 1600000 in
theorem dmarkNames (l:List (List Int)):MarkC Tryz.prog 22 (seqOf 1 (fun n=>[raw n]) l):=by
 unfold seqOf
 intro v F s w h hnd hlv hs0 hs1
 have h0:=h
 obtain ⟨F2,hF,hm0⟩:=MarkL.start h hnd hlv s
 rw [Lie] at h
 obtain ⟨_,us,F3,⟨A,c,hv,hc1,hc2,hul,_⟩,_,_⟩:=h
 obtain ⟨N,hN⟩:∃ N,l.length=N:=⟨_,rfl⟩
 obtain ⟨g,hg⟩:∃ g:(List Int)→List Cel,(fun n=>[raw n])=g:=⟨_,rfl⟩
 have hgx:∀ x,g x = [raw x]:=fun x=>by subst hg; exact rfl
 rw [hg] at hm0 h0 hs1 ⊢
 rw [Cel.cnt] at hs1 ⊢
 rw [hN] at hv hc1 hm0 h0 ⊢
 obtain ⟨S,hS⟩:∃ S,cnts (cells g l)=S:=⟨_,rfl⟩
 rw [hS] at hs1 ⊢
 unfold maxLen at hc2
 have STOP:=fun wr (hm:MarkL w v s F2 N (cells g l) [] wr)=>MarkL.stop h0 hF hlv hm
 have HST:=hide STOP
 have HS:=hide hS
 have HN:=hide hN
 have HG:=hide hgx
 have HM0:=hide hm0
 subst hv
 clear STOP hS hN hg hgx hm0 h0 hul hnd hlv hF
 go_enter Tryz.func22,Tryz.ntmps22
 go_wp2
 go_loopw [1,5] (fun q i wr=>∃ j z:Nat,j≤N∧i=.int .i64 j∧q=.int .i64 (s + z)∧z≤S∧Hid (cnts (cells g (l.take j))=z∧MarkL w (.slice A N c) s F2 N (cells g (l.take j)) (cells g (l.drop j)) wr))
  (fun _ i _=>N - (intOf i).toNat)
 case atStart=>exact ⟨0,0,Nat.zero_le _,rfl,by go_num,Nat.zero_le _,hide ⟨by simp [cells,cnts],HM0.out⟩⟩
 case round =>
  obtain ⟨j,z,hj,rfl,rfl,hzS,HR⟩:=hrel
  by_cases hlt:j < N
  ·obtain ⟨hz,hml⟩:=HR.out
   obtain ⟨b,off,c',us',hv,P0⟩:=hml.2 (by omega)
   injection hv with hv1 _ hv2
   subst hv1
   have hjn:j < l.length:=by rw [HN.out]; exact hlt
   have htk:=cells_take g hjn
   have hlen:j * 1=(cells g (l.take j)).length:=by rw [cells_len (sz:=1) (by intro x; rw [HG.out]; rfl),List.length_take]; omega
   rw [cells_drop g hjn] at P0
   obtain ⟨x,hxe⟩:∃ x,l[j]=x:=⟨_,rfl⟩
   have hmem:x∈l:=hxe ▸ List.getElem_mem hjn
   rw [hxe,HG.out x] at P0 htk
   have hz2:=congrArg cnts htk
   rw [cnts_app,hz] at hz2
   have hz3:cnts (cells g (l.take (j + 1)))≤S:=by
    rw [← HS.out,cells_split g l (j + 1),cnts_app]; omega
   rw [hz2] at hz3
   simp only [cnts] at hz3 hz2
   obtain ⟨D0,hD0⟩:∃ D,(raw x).cnt=D:=⟨_,rfl⟩
   simp only [hD0] at hz2 hz3
   simp only [List.cons_append,List.nil_append] at P0
   have HTK:=hide htk
   have HZ2:=hide hz2
   have HLEN:=hide hlen
   have HZ:=hide hz
   have HD0:=hide hD0
   have k1:(j:Int) < (N:Int):=by omega
   clear htk hz2 hlen hz hml HR hjn hv2 hxe hD0
   obtain ⟨v0,F0,c0,l0,n0,lv0,fin0⟩:=P0.call (p:=j * 1) HLEN.out (y:=s + z) (by rw [HZ.out])
   rw [Nat.mul_one] at c0
   try simp only [← Nat.add_assoc] at c0
   have call0:=dmarkRaw x v0 F0 (s + z) wr l0 n0 lv0 (by omega) (by rw [HD0.out]; omega)
   rw [HD0.out] at call0
   have FN0:=hide fin0
   have CL0:=hide call0
   clear fin0 call0 P0 l0 n0 lv0
   go_wp2_with fail
   refine CL0.out.mono ?_
   rintro e W0 ⟨rfl,m0,lv0,b0⟩
   have P1:=FN0.out W0 m0 lv0 b0
   clear FN0 CL0 c0 m0 lv0 b0
   have fin:=MarkL.round (n:=N) (by omega) rfl P1 (c:=c)
   try simp only [List.append_assoc,List.cons_append,List.nil_append] at fin
   rw [← HTK.out] at fin
   have FIN:=hide (And.intro (HZ2.out.trans (show _=z + (D0) by omega)) fin)
   clear fin P1 HTK HZ2 HLEN HZ
   go_wp2_with fail
   go_roundw
   case rel=>exact ⟨j + 1,z + (D0),by omega,by go_num,by go_num,by omega,FIN⟩
   case measure=>simp [intOf]; omega
  ·obtain rfl:j=N:=by omega
   obtain ⟨hz,hml⟩:=HR.out
   rw [List.take_of_length_le (by rw [HN.out]; omega)] at hz hml
   rw [List.drop_eq_nil_of_le (by rw [HN.out]; omega)] at hml
   rw [HS.out] at hz
   subst hz
   have FIN:=hide (HST.out wr hml)
   clear hml HR
   go_wp2
   go_ret
   exact ⟨rfl,FIN.out⟩
set_option maxRecDepth 20000 in
set_option maxHeartbeats 1600000 in
theorem dmarkTrees (l:List T) (ih:∀ x∈l,MarkC Tryz.prog 127 (seqOf 4 T.cells x.kids)):MarkC Tryz.prog 127 (seqOf 4 T.cells l):=by
 unfold seqOf
 intro v F s w h hnd hlv hs0 hs1
 have h0:=h
 obtain ⟨F2,hF,hm0⟩:=MarkL.start h hnd hlv s
 rw [Lie] at h
 obtain ⟨_,us,F3,⟨A,c,hv,hc1,hc2,hul,_⟩,_,_⟩:=h
 obtain ⟨N,hN⟩:∃ N,l.length=N:=⟨_,rfl⟩
 obtain ⟨g,hg⟩:∃ g:T→List Cel,T.cells=g:=⟨_,rfl⟩
 have hgx:∀ x,g x = [.num .i64 x.kind,raw x.data,names x.names,seqOf 4 T.cells x.kids]:=fun x=>by subst hg; exact x.cells_eq
 rw [hg] at hm0 h0 hs1 ⊢
 rw [Cel.cnt] at hs1 ⊢
 rw [hN] at hv hc1 hm0 h0 ⊢
 obtain ⟨S,hS⟩:∃ S,cnts (cells g l)=S:=⟨_,rfl⟩
 rw [hS] at hs1 ⊢
 unfold maxLen at hc2
 have STOP:=fun wr (hm:MarkL w v s F2 N (cells g l) [] wr)=>MarkL.stop h0 hF hlv hm
 have HST:=hide STOP
 have HS:=hide hS
 have HN:=hide hN
 have HG:=hide hgx
 have HM0:=hide hm0
 have IH:=hide ih
 subst hv
 clear STOP hS hN hg hgx hm0 h0 hul hnd hlv hF ih
 go_enter Tryz.func127,Tryz.ntmps127
 go_wp2
 go_loopw [1,5] (fun q i wr=>∃ j z:Nat,j≤N∧i=.int .i64 j∧q=.int .i64 (s + z)∧z≤S∧Hid (cnts (cells g (l.take j))=z∧MarkL w (.slice A N c) s F2 N (cells g (l.take j)) (cells g (l.drop j)) wr))
  (fun _ i _=>N - (intOf i).toNat)
 case atStart=>exact ⟨0,0,Nat.zero_le _,rfl,by go_num,Nat.zero_le _,hide ⟨by simp [cells,cnts],HM0.out⟩⟩
 case round =>
  obtain ⟨j,z,hj,rfl,rfl,hzS,HR⟩:=hrel
  by_cases hlt:j < N
  ·obtain ⟨hz,hml⟩:=HR.out
   obtain ⟨b,off,c',us',hv,P0⟩:=hml.2 (by omega)
   injection hv with hv1 _ hv2
   subst hv1
   have hjn:j < l.length:=by rw [HN.out]; exact hlt
   have htk:=cells_take g hjn
   have hlen:j * 4=(cells g (l.take j)).length:=by rw [cells_len (sz:=4) (by intro x; rw [HG.out]; rfl),List.length_take]; omega
   rw [cells_drop g hjn] at P0
   obtain ⟨x,hxe⟩:∃ x,l[j]=x:=⟨_,rfl⟩
   have hmem:x∈l:=hxe ▸ List.getElem_mem hjn
   rw [hxe,HG.out x] at P0 htk
   have hz2:=congrArg cnts htk
   rw [cnts_app,hz] at hz2
   have hz3:cnts (cells g (l.take (j + 1)))≤S:=by
    rw [← HS.out,cells_split g l (j + 1),cnts_app]; omega
   rw [hz2] at hz3
   simp only [cnts] at hz3 hz2
   obtain ⟨D1,hD1⟩:∃ D,(raw x.data).cnt=D:=⟨_,rfl⟩
   obtain ⟨D2,hD2⟩:∃ D,(names x.names).cnt=D:=⟨_,rfl⟩
   obtain ⟨D3,hD3⟩:∃ D,(seqOf 4 T.cells x.kids).cnt=D:=⟨_,rfl⟩
   simp only [hD1,hD2,hD3] at hz2 hz3
   simp only [num_cnt] at hz2 hz3
   simp only [List.cons_append,List.nil_append] at P0
   have HTK:=hide htk
   have HZ2:=hide hz2
   have HLEN:=hide hlen
   have HZ:=hide hz
   have HD1:=hide hD1
   have HD2:=hide hD2
   have HD3:=hide hD3
   have k1:(j:Int) < (N:Int):=by omega
   clear htk hz2 hlen hz hml HR hjn hv2 hxe hD1 hD2 hD3
   obtain ⟨c0,f0,us0,P1⟩:=P0.num (p:=j * 4) HLEN.out (y:=s + z) (by rw [mk1_i64,HZ.out])
   try simp only [← Nat.add_assoc] at c0 f0 P1
   obtain ⟨W0,hW0⟩:∃ W,wr.setCell ⟨b,off + j * 4,none⟩ (.int .i64 (s + z))=W:=⟨_,rfl⟩
   rw [hW0] at P1
   have HW0:=hide hW0
   clear hW0 P0
   obtain ⟨v1,F1,c1,l1,n1,lv1,fin1⟩:=P1.call (p:=j * 4 + 1) (by simp only [List.length_append,List.length_cons,List.length_nil]; have:=HLEN.out; omega) (y:=s + z + 1) (by simp only [cnts_app,cnts,num_cnt]; have:=HZ.out; have:=HZ.out; omega)
   try simp only [← Nat.add_assoc] at c1
   rw [← HW0.out,World.cell?_setCell_other _ _ _ _ (by intro e; injection e with _ e2; omega)] at c1
   have call1:=dmarkRaw x.data v1 F1 (s + z + 1) W0 l1 n1 lv1 (by omega) (by rw [HD1.out]; omega)
   rw [HD1.out] at call1
   have FN1:=hide fin1
   have CL1:=hide call1
   clear fin1 call1 P1 l1 n1 lv1
   go_wp2_with fail
   rw [HW0.out]
   refine CL1.out.mono ?_
   rintro e W1 ⟨rfl,m1,lv1,b1⟩
   have P2:=FN1.out W1 m1 lv1 b1
   clear FN1 CL1 c1 m1 lv1 b1 c0 f0 HW0
   obtain ⟨v2,F2,c2,l2,n2,lv2,fin2⟩:=P2.call (p:=j * 4 + 2) (by simp only [List.length_append,List.length_cons,List.length_nil]; have:=HLEN.out; omega) (y:=s + z + 1 + D1) (by simp only [cnts_app,cnts,num_cnt,HD1.out]; have:=HZ.out; have:=HZ.out; omega)
   try simp only [← Nat.add_assoc] at c2
   have call2:=dmarkNames x.names v2 F2 (s + z + 1 + D1) W1 l2 n2 lv2 (by omega) (by rw [HD2.out]; omega)
   rw [HD2.out] at call2
   have FN2:=hide fin2
   have CL2:=hide call2
   clear fin2 call2 P2 l2 n2 lv2
   go_wp2_with fail
   refine CL2.out.mono ?_
   rintro e W2 ⟨rfl,m2,lv2,b2⟩
   have P3:=FN2.out W2 m2 lv2 b2
   clear FN2 CL2 c2 m2 lv2 b2
   obtain ⟨v3,F3,c3,l3,n3,lv3,fin3⟩:=P3.call (p:=j * 4 + 3) (by simp only [List.length_append,List.length_cons,List.length_nil]; have:=HLEN.out; omega) (y:=s + z + 1 + D1 + D2) (by simp only [cnts_app,cnts,num_cnt,HD1.out,HD2.out]; have:=HZ.out; have:=HZ.out; omega)
   try simp only [← Nat.add_assoc] at c3
   have call3:=IH.out x hmem v3 F3 (s + z + 1 + D1 + D2) W2 l3 n3 lv3 (by omega) (by rw [HD3.out]; omega)
   rw [HD3.out] at call3
   have FN3:=hide fin3
   have CL3:=hide call3
   clear fin3 call3 P3 l3 n3 lv3
   go_wp2_with fail
   refine CL3.out.mono ?_
   rintro e W3 ⟨rfl,m3,lv3,b3⟩
   have P4:=FN3.out W3 m3 lv3 b3
   clear FN3 CL3 c3 m3 lv3 b3
   have fin:=MarkL.round (n:=N) (by omega) rfl P4 (c:=c)
   try simp only [List.append_assoc,List.cons_append,List.nil_append] at fin
   rw [← HTK.out] at fin
   have FIN:=hide (And.intro (HZ2.out.trans (show _=z + (1 + D1 + D2 + D3) by omega)) fin)
   clear fin P4 HTK HZ2 HLEN HZ
   go_wp2_with fail
   go_roundw
   case rel=>exact ⟨j + 1,z + (1 + D1 + D2 + D3),by omega,by go_num,by go_num,by omega,FIN⟩
   case measure=>simp [intOf]; omega
  ·obtain rfl:j=N:=by omega
   obtain ⟨hz,hml⟩:=HR.out
   rw [List.take_of_length_le (by rw [HN.out]; omega)] at hz hml
   rw [List.drop_eq_nil_of_le (by rw [HN.out]; omega)] at hml
   rw [HS.out] at hz
   subst hz
   have FIN:=hide (HST.out wr hml)
   clear hml HR
   go_wp2
   go_ret
   exact ⟨rfl,FIN.out⟩
theorem dmarkK:∀ t:T,MarkC Tryz.prog 127 (seqOf 4 T.cells t.kids):=by
 intro t
 induction t using T.ind with
 | h k d ns ks ih=>exact dmarkTrees ks ih
theorem dmarkTreeL (l:List T):MarkC Tryz.prog 127 (seqOf 4 T.cells l):=dmarkTrees l fun t _=>dmarkK t
set_option maxRecDepth 20000 in
set_option maxHeartbeats 1600000 in
theorem dheldBytes (l:List Int):HeldC Tryz.prog 45 (seqOf 1 (fun x=>[Cel.num .u8 x]) l):=by
 unfold seqOf
 intro v F s w h hs0 hs1
 obtain ⟨F2,hm0⟩:=HeldL.start h
 rw [Cel.mk] at h
 obtain ⟨A,c,hv,hc1,hc2⟩:=h.form
 obtain ⟨N,hN⟩:∃ N,l.length=N:=⟨_,rfl⟩
 obtain ⟨g,hg⟩:∃ g:Int→List Cel,(fun x=>[Cel.num .u8 x])=g:=⟨_,rfl⟩
 have hgx:∀ x,g x = [.num .u8 x]:=fun x=>by subst hg; exact rfl
 rw [hg] at hm0 hs1 ⊢
 rw [Cel.cnt] at hs1 ⊢
 rw [hN] at hv hc1 hm0
 obtain ⟨S,hS⟩:∃ S,cnts (cells g l)=S:=⟨_,rfl⟩
 rw [hS] at hs1 ⊢
 unfold maxLen at hc2
 have HS:=hide hS
 have HN:=hide hN
 have HG:=hide hgx
 have HM0:=hide hm0
 subst hv
 clear hS hN hg hgx hm0 h
 go_enter Tryz.func45,Tryz.ntmps45
 go_wp2
 go_loopw [1,5] (fun q i wr=>∃ j z:Nat,j≤N∧i=.int .i64 j∧q=.int .i64 (s + z)∧z≤S∧Hid (cnts (cells g (l.take j))=z∧HeldL w (.slice A N c) s F2 N (cells g (l.take j)) (cells g (l.drop j)) wr))
  (fun _ i _=>N - (intOf i).toNat)
 case atStart=>exact ⟨0,0,Nat.zero_le _,rfl,by go_num,Nat.zero_le _,hide ⟨by simp [cells,cnts],HM0.out⟩⟩
 case round =>
  obtain ⟨j,z,hj,rfl,rfl,hzS,HR⟩:=hrel
  by_cases hlt:j < N
  ·obtain ⟨hz,hml⟩:=HR.out
   obtain ⟨b,off,c',us',hv,P0⟩:=hml.2 (by omega)
   injection hv with hv1 _ hv2
   subst hv1
   have hjn:j < l.length:=by rw [HN.out]; exact hlt
   have htk:=cells_take g hjn
   have hlen:j * 1=(cells g (l.take j)).length:=by rw [cells_len (sz:=1) (by intro x; rw [HG.out]; rfl),List.length_take]; omega
   rw [cells_drop g hjn] at P0
   obtain ⟨x,hxe⟩:∃ x,l[j]=x:=⟨_,rfl⟩
   have hmem:x∈l:=hxe ▸ List.getElem_mem hjn
   rw [hxe,HG.out x] at P0 htk
   have hz2:=congrArg cnts htk
   rw [cnts_app,hz] at hz2
   have hz3:cnts (cells g (l.take (j + 1)))≤S:=by
    rw [← HS.out,cells_split g l (j + 1),cnts_app]; omega
   rw [hz2] at hz3
   simp only [cnts] at hz3 hz2
   simp only [num_cnt] at hz2 hz3
   simp only [List.cons_append,List.nil_append] at P0
   have HTK:=hide htk
   have HZ2:=hide hz2
   have HLEN:=hide hlen
   have HZ:=hide hz
   have HB0:=hide hml.1
   have k1:(j:Int) < (N:Int):=by omega
   clear htk hz2 hlen hz hml HR hjn hv2 hxe
   have c0:=P0.num (p:=j * 1) HLEN.out (y:=(s + z) % 256) (by rw [mk1_u8,HZ.out])
   rw [Nat.mul_one] at c0
   try simp only [← Nat.add_assoc] at c0
   have e0:((((s + z) % 256):Int) != (s + z) % 256)=false:=by simp
   have P1:=P0.next
   clear P0
   have fin:=HeldL.round (n:=N) (w:=w) rfl P1 HB0.out (c:=c)
   try simp only [List.append_assoc,List.cons_append,List.nil_append] at fin
   rw [← HTK.out] at fin
   have FIN:=hide (And.intro (HZ2.out.trans (show _=z + (1) by omega)) fin)
   clear fin P1 HTK HZ2 HLEN HZ
   go_wp2_with fail
   go_roundw
   case rel=>exact ⟨j + 1,z + (1),by omega,by go_num,by go_num,by omega,FIN⟩
   case measure=>simp [intOf]; omega
  ·obtain rfl:j=N:=by omega
   obtain ⟨hz,hml⟩:=HR.out
   rw [List.take_of_length_le (by rw [HN.out]; omega)] at hz
   rw [HS.out] at hz
   subst hz
   have FIN:=hide hml.1
   clear hml HR
   go_wp2
   go_ret
   exact ⟨rfl,FIN.out⟩
theorem dheldRaw (l:List Int):HeldC Tryz.prog 45 (raw l):=by rw [raw_eq]; exact dheldBytes l
set_option maxRecDepth 20000 in
set_option maxHeartbeats 1600000 in
theorem dheldNames (l:List (List Int)):HeldC Tryz.prog 23 (seqOf 1 (fun n=>[raw n]) l):=by
 unfold seqOf
 intro v F s w h hs0 hs1
 obtain ⟨F2,hm0⟩:=HeldL.start h
 rw [Cel.mk] at h
 obtain ⟨A,c,hv,hc1,hc2⟩:=h.form
 obtain ⟨N,hN⟩:∃ N,l.length=N:=⟨_,rfl⟩
 obtain ⟨g,hg⟩:∃ g:(List Int)→List Cel,(fun n=>[raw n])=g:=⟨_,rfl⟩
 have hgx:∀ x,g x = [raw x]:=fun x=>by subst hg; exact rfl
 rw [hg] at hm0 hs1 ⊢
 rw [Cel.cnt] at hs1 ⊢
 rw [hN] at hv hc1 hm0
 obtain ⟨S,hS⟩:∃ S,cnts (cells g l)=S:=⟨_,rfl⟩
 rw [hS] at hs1 ⊢
 unfold maxLen at hc2
 have HS:=hide hS
 have HN:=hide hN
 have HG:=hide hgx
 have HM0:=hide hm0
 subst hv
 clear hS hN hg hgx hm0 h
 go_enter Tryz.func23,Tryz.ntmps23
 go_wp2
 go_loopw [1,5] (fun q i wr=>∃ j z:Nat,j≤N∧i=.int .i64 j∧q=.int .i64 (s + z)∧z≤S∧Hid (cnts (cells g (l.take j))=z∧HeldL w (.slice A N c) s F2 N (cells g (l.take j)) (cells g (l.drop j)) wr))
  (fun _ i _=>N - (intOf i).toNat)
 case atStart=>exact ⟨0,0,Nat.zero_le _,rfl,by go_num,Nat.zero_le _,hide ⟨by simp [cells,cnts],HM0.out⟩⟩
 case round =>
  obtain ⟨j,z,hj,rfl,rfl,hzS,HR⟩:=hrel
  by_cases hlt:j < N
  ·obtain ⟨hz,hml⟩:=HR.out
   obtain ⟨b,off,c',us',hv,P0⟩:=hml.2 (by omega)
   injection hv with hv1 _ hv2
   subst hv1
   have hjn:j < l.length:=by rw [HN.out]; exact hlt
   have htk:=cells_take g hjn
   have hlen:j * 1=(cells g (l.take j)).length:=by rw [cells_len (sz:=1) (by intro x; rw [HG.out]; rfl),List.length_take]; omega
   rw [cells_drop g hjn] at P0
   obtain ⟨x,hxe⟩:∃ x,l[j]=x:=⟨_,rfl⟩
   have hmem:x∈l:=hxe ▸ List.getElem_mem hjn
   rw [hxe,HG.out x] at P0 htk
   have hz2:=congrArg cnts htk
   rw [cnts_app,hz] at hz2
   have hz3:cnts (cells g (l.take (j + 1)))≤S:=by
    rw [← HS.out,cells_split g l (j + 1),cnts_app]; omega
   rw [hz2] at hz3
   simp only [cnts] at hz3 hz2
   obtain ⟨D0,hD0⟩:∃ D,(raw x).cnt=D:=⟨_,rfl⟩
   simp only [hD0] at hz2 hz3
   simp only [List.cons_append,List.nil_append] at P0
   have HTK:=hide htk
   have HZ2:=hide hz2
   have HLEN:=hide hlen
   have HZ:=hide hz
   have HB0:=hide hml.1
   have HD0:=hide hD0
   have k1:(j:Int) < (N:Int):=by omega
   clear htk hz2 hlen hz hml HR hjn hv2 hxe hD0
   obtain ⟨v0,F0,c0,l0⟩:=P0.call (p:=j * 1) HLEN.out (y:=s + z) (by rw [HZ.out])
   rw [Nat.mul_one] at c0
   try simp only [← Nat.add_assoc] at c0
   have call0:=dheldRaw x v0 F0 (s + z) wr l0 (by omega) (by rw [HD0.out]; omega)
   rw [HD0.out] at call0
   have CL0:=hide call0
   have PN0:=P0.next
   clear call0 P0 l0
   have q0:¬ (s + z + (D0:Int) < 0):=by omega
   go_wp2_with fail
   refine CL0.out.mono ?_
   rintro e W0 ⟨rfl,b0⟩
   have P1:=PN0.step b0
   have HB1:=hide (HB0.out.trans (b0.mono HB0.out.size))
   clear CL0 c0 b0 PN0
   have fin:=HeldL.round (n:=N) (w:=w) rfl P1 HB1.out (c:=c)
   try simp only [List.append_assoc,List.cons_append,List.nil_append] at fin
   rw [← HTK.out] at fin
   have FIN:=hide (And.intro (HZ2.out.trans (show _=z + (D0) by omega)) fin)
   clear fin P1 HTK HZ2 HLEN HZ
   go_wp2_with fail
   go_roundw
   case rel=>exact ⟨j + 1,z + (D0),by omega,by go_num,by go_num,by omega,FIN⟩
   case measure=>simp [intOf]; omega
  ·obtain rfl:j=N:=by omega
   obtain ⟨hz,hml⟩:=HR.out
   rw [List.take_of_length_le (by rw [HN.out]; omega)] at hz
   rw [HS.out] at hz
   subst hz
   have FIN:=hide hml.1
   clear hml HR
   go_wp2
   go_ret
   exact ⟨rfl,FIN.out⟩
end Go.Proofs.YtgaadpkefncnmaaGreatDoor
