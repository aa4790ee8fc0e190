/-
  Parts of the proof: Graph, StoreP, CmpO, RealOk, ResP, SortedP, StoReg, Reach, SortK, KeysI, RefsOk.
-/
import Derived.Test.YtgaadpkefncnmaaGreatDoorMp28
import Derived.Test.YtgaadpkefncnmaaGreatDoorMp12
import Derived.Test.YtgaadpkefncnmaaGreatDoorMp1
import Derived.Test.YtgaadpkefncnmaaGreatDoorMp0
import Derived.Laws.BytesArg
import Derived.IntWalk
import Derived.Deep.QuietTactic
import Derived.BigQuiet
import Derived.Deep.Cut
import Derived.Deep.DeepCutAuto
import Derived.Deep.CutBlock
import Derived.Deep.RegionWith
import Derived.Sort.KeysCollected
import Derived.Sort.Walk0
import Derived.Shelf.SlIter.Nil
import Derived.Shelf.SortM.Plain
import Derived.Shelf.SortM.SortNone
import Derived.Test.YtgaadpkefncnmaaGreatDoorMp19
import Derived.Deep.RegionHeld3
import Derived.Laws.IdiomStrings
/-
  Who refers to whom: the rounds tell whether something reaches itself; what a search finds.
-/
namespace Go.Proofs.YtgaadpkefncnmaaGreatDoor
open Go.RowKit
set_option linter.unusedVariables false
set_option linter.unusedSimpArgs false
/-! ### who refers to whom -/
def refsAt (os:List DObj) (n:List Int):List (List Int):=(os[atO os n]?.map DObj.refs).getD []
/-- x is one of the names, or something that one of them refers to, whatever the way. -/
inductive Rch (os:List DObj) (ns:List (List Int)):List Int→Prop
 | base {x:List Int} (h:x∈ns) (hd:atO os x < os.length):Rch os ns x
 | step {x y:List Int} (h:Rch os ns y) (hr:x∈refsAt os y) (hd:atO os x < os.length):Rch os ns x
theorem Rch.there {os:List DObj} {ns:List (List Int)} {x:List Int} (h:Rch os ns x):atO os x < os.length:=by cases h <;> assumption
theorem Rch.mono {os:List DObj} {ns ms:List (List Int)} {x:List Int} (h:Rch os ns x) (hs:∀ y∈ns,y∈ms):Rch os ms x:=by
 induction h with
 | base h hd=>exact .base (hs _ h) hd
 | step h hr hd ih=>exact .step ih hr hd
theorem Rch.trans {os:List DObj} {ns:List (List Int)} {x y:List Int} (h:Rch os ns y) (h2:Rch os (refsAt os y) x):Rch os ns x:=by
 induction h2 with
 | base hm hd=>exact .step h hm hd
 | step _ hr hd ih=>exact .step ih hr hd
/-- The names differ. -/
def NmDiff (os:List DObj):Prop:=∀ i j (hi:i < os.length) (hj:j < os.length),(os[i]).name=(os[j]).name→i=j
theorem atO_self {os:List DObj} (hd:NmDiff os) {i:Nat} (hi:i < os.length):atO os (os[i]).name=i :=
 atO_found hi (fun m hm h=>by have:=hd m i (by omega) hi h; omega) rfl
theorem refsAt_self {os:List DObj} (hd:NmDiff os) {i:Nat} (hi:i < os.length):refsAt os (os[i]).name=(os[i]).refs:=by
 rw [refsAt,atO_self hd hi,List.getElem?_eq_getElem hi]; rfl
theorem refsAt_at {os:List DObj} {n:List Int} (h:atO os n < os.length):refsAt os n=(os[atO os n]).refs:=by
 rw [refsAt,List.getElem?_eq_getElem h]; rfl
/-! ### the rounds -/
/-- Whatever is done there is done here. -/
def LeD (d e:List Bool):Prop:=∀ i,d.getD i false=true→e.getD i false=true
theorem LeD.refl (d:List Bool):LeD d d:=fun _ h=>h
theorem LeD.trans {a b c:List Bool} (h:LeD a b) (k:LeD b c):LeD a c:=fun i hi=>k i (h i hi)
theorem setD {d:List Bool} {i:Nat} (hi:i < d.length) (j:Nat):(d.set i true).getD j false=if j=i then true else d.getD j false:=by
 simp only [List.getD_eq_getElem?_getD,List.getElem?_set]
 by_cases e:j=i
 ·subst e
  simp [hi]
 ·rw [if_neg (fun h=>e h.symm),if_neg e]
theorem rstep_le (os:List DObj) {d:List Bool} (hl:d.length=os.length) (i:Nat):LeD d (rstep os d i):=by
 unfold rstep
 split
 ·rename_i o ho
  have hi:i < os.length:=(List.getElem?_eq_some_iff.1 ho).1
  split
  ·intro j hj
   rw [setD (by omega)]
   split
   ·rfl
   ·exact hj
  ·exact LeD.refl d
 ·exact LeD.refl d
theorem rto_le (os:List DObj) {d:List Bool} (hl:d.length=os.length) (k:Nat):LeD d (rto os d k):=by
 induction k with
 | zero=>exact LeD.refl d
 | succ k ih=>exact ih.trans (rstep_le os (by rw [rto_len,hl]) k)
theorem ready_le {os:List DObj} {d e:List Bool} (h:LeD d e) {o:DObj} (hr:ready os d o=true):ready os e o=true:=by
 unfold ready at *
 rw [List.all_eq_true] at *
 exact fun r hm=>h _ (hr r hm)
/-- What is done is so of right: its references are done, and it does not reach itself. -/
def InvD (os:List DObj) (d:List Bool):Prop:=∀ i (hi:i < os.length),d.getD i false=true→ready os d os[i]=true∧¬ Rch os (os[i]).refs (os[i]).name
theorem inv_all {os:List DObj} {d:List Bool} (hI:InvD os d) {ns:List (List Int)} (hn:∀ r∈ns,d.getD (atO os r) false=true) {x:List Int} (h:Rch os ns x):d.getD (atO os x) false=true:=by
 induction h with
 | base hm _=>exact hn _ hm
 | step hy hr _ ih =>
   have hlt:=hy.there
   have:=(hI _ hlt ih).1
   unfold ready at this
   rw [List.all_eq_true] at this
   rw [refsAt_at hlt] at hr
   exact this _ hr
theorem rstep_inv {os:List DObj} (hd:NmDiff os) {d:List Bool} (hl:d.length=os.length) (hI:InvD os d) (i:Nat):InvD os (rstep os d i):=by
 have hle:=rstep_le os hl i
 by_cases hi:i < os.length
 ·rw [rstep_at hi] at hle ⊢
  split
  ·rename_i hc
   rw [if_pos hc] at hle
   rw [Bool.and_eq_true,Bool.not_eq_true'] at hc
   intro j hj h
   rw [setD (by omega)] at h
   by_cases e:j=i
   ·subst e
    refine ⟨ready_le hle hc.2,fun hr=>?_⟩
    have h2:=hc.2
    unfold ready at h2
    rw [List.all_eq_true] at h2
    have h1:=inv_all hI h2 hr
    rw [atO_self hd hi,hc.1] at h1
    cases h1
   ·rw [if_neg e] at h
    exact ⟨ready_le hle (hI j hj h).1,(hI j hj h).2⟩
  ·exact hI
 ·rw [rstep,List.getElem?_eq_none (by omega)]
  exact hI
theorem rto_inv {os:List DObj} (hd:NmDiff os) {d:List Bool} (hl:d.length=os.length) (hI:InvD os d) (k:Nat):InvD os (rto os d k):=by
 induction k with
 | zero=>exact hI
 | succ k ih=>exact rstep_inv hd (by rw [rto_len,hl]) ih k
theorem replD (n i:Nat):(List.replicate n false).getD i false=false:=by
 simp [List.getD_eq_getElem?_getD,List.getElem?_replicate]
 split <;> rfl
theorem drnds_inv {os:List DObj} (hd:NmDiff os) (k:Nat):InvD os (drnds os k):=by
 induction k with
 | zero =>
   intro i hi h
   rw [drnds,replD] at h
   cases h
 | succ k ih=>exact rto_inv hd (drnds_len os k) ih _
theorem count_all {d:List Bool} (h:d.count false=0) {i:Nat} (hi:i < d.length):d.getD i false=true:=by
 rw [List.count_eq_zero] at h
 cases hx:d.getD i false
 ·exfalso
  apply h
  rw [← hx,List.getD_eq_getElem?_getD,List.getElem?_eq_getElem hi]
  exact List.getElem_mem hi
 ·rfl
theorem le_count:∀ {d e:List Bool},d.length=e.length→LeD d e→e.count false≤d.count false
 | [],[],_,_=>Nat.le_refl _
 | x :: d,y :: e,hl,h=>by
   have h0:=h 0
   have ht:LeD d e:=fun i hi=>h (i + 1) hi
   have:=le_count (d:=d) (e:=e) (by simpa using hl) ht
   rw [List.count_cons,List.count_cons]
   cases x <;> cases y <;> simp at h0 ⊢ <;> omega
theorem lt_count:∀ {d e:List Bool},d.length=e.length→LeD d e→∀ {i:Nat},d.getD i false=false→e.getD i false=true→e.count false < d.count false
 | [],[],_,_,i,_,h=>by simp at h
 | x :: d,y :: e,hl,h,0,h0,h1=>by
   have ht:LeD d e:=fun i hi=>h (i + 1) hi
   have:=le_count (d:=d) (e:=e) (by simpa using hl) ht
   have e0:x=false:=by simpa using h0
   have e1:y=true:=by simpa using h1
   subst e0 e1
   rw [List.count_cons,List.count_cons]
   simp
   omega
 | x :: d,y :: e,hl,h,i + 1,h0,h1=>by
   have hx:=h 0
   have ht:LeD d e:=fun i hi=>h (i + 1) hi
   have:=lt_count (d:=d) (e:=e) (by simpa using hl) ht (i:=i) (by simpa using h0) (by simpa using h1)
   rw [List.count_cons,List.count_cons]
   cases x <;> cases y <;> simp at hx ⊢ <;> omega
/-- How many a name's references reach. -/
noncomputable def reachN (os:List DObj) (ns:List (List Int)):Nat:=by
 classical
 exact ((List.range os.length).filter fun j=>decide (∃ h:j < os.length,Rch os ns (os[j]).name)).length
theorem filter_lt {α:Type} {p q:α→Bool} : ∀ {l:List α},(∀ x∈l,p x=true→q x=true)→∀ {y:α},y∈l→p y=false→q y=true→(l.filter p).length < (l.filter q).length
 | a :: l,h,y,hy,hp,hq=>by
   have hle:(l.filter p).length≤(l.filter q).length:=by
    have:∀ l:List α,(∀ x∈l,p x=true→q x=true)→(l.filter p).length≤(l.filter q).length:=by
     intro l
     induction l with
     | nil=>intro _; exact Nat.le_refl _
     | cons a l ih =>
       intro h
       have h1:=ih fun x hx=>h x (by simp [hx])
       have h2:=h a (by simp)
       cases ha:p a <;> cases hb:q a <;> simp [ha,hb] at h2 ⊢ <;> omega
    exact this l fun x hx=>h x (by simp [hx])
   rcases List.mem_cons.1 hy with rfl | hy'
   ·simp [hp,hq]
    omega
   ·have:=filter_lt (p:=p) (q:=q) (l:=l) (fun x hx=>h x (by simp [hx])) hy' hp hq
    have h2:=h a (by simp)
    cases ha:p a <;> cases hb:q a <;> simp [ha,hb] at h2 ⊢ <;> omega
theorem reachN_lt {os:List DObj} (hd:NmDiff os) {i j:Nat} (hi:i < os.length) (hj:j < os.length) (hr:(os[j]).name∈(os[i]).refs) (hna:¬ Rch os (os[j]).refs (os[j]).name) :
  reachN os (os[j]).refs < reachN os (os[i]).refs:=by
 classical
 have hself:atO os (os[j]).name < os.length:=by rw [atO_self hd hj]; exact hj
 have hb:Rch os (os[i]).refs (os[j]).name:=.base hr hself
 unfold reachN
 refine filter_lt (fun x _ hx=>?_) (List.mem_range.2 hj) ?_ ?_
 ·obtain ⟨h,hx⟩:=of_decide_eq_true hx
  exact decide_eq_true ⟨h,hb.trans (by rw [refsAt_self hd hj]; exact hx)⟩
 ·exact decide_eq_false fun ⟨_,h⟩=>hna h
 ·exact decide_eq_true ⟨hj,hb⟩
/-- Where nothing reaches itself, something that is not done is ready. -/
theorem some_ready {os:List DObj} (hd:NmDiff os) (hcl:∀ o∈os,∀ r∈o.refs,atO os r < os.length) (hac:∀ i (hi:i < os.length),¬ Rch os (os[i]).refs (os[i]).name) (d:List Bool) :
  ∀ (n:Nat) (i:Nat) (hi:i < os.length),reachN os (os[i]).refs≤n→d.getD i false=false→∃ j,∃ h:j < os.length,d.getD j false=false∧ready os d os[j]=true:=by
 intro n
 induction n with
 | zero =>
   intro i hi hn hf
   refine ⟨i,hi,hf,?_⟩
   cases hr:ready os d os[i]
   ·exfalso
    unfold ready at hr
    rw [List.all_eq_false] at hr
    obtain ⟨r,hm,hx⟩:=hr
    have hlt:=hcl _ (List.getElem_mem hi) r hm
    have:=reachN_lt hd hi hlt (by rw [atO_name hlt]; exact hm) (hac _ hlt)
    omega
   ·rfl
 | succ n ih =>
   intro i hi hn hf
   cases hr:ready os d os[i]
   ·unfold ready at hr
    rw [List.all_eq_false] at hr
    obtain ⟨r,hm,hx⟩:=hr
    have hlt:=hcl _ (List.getElem_mem hi) r hm
    have:=reachN_lt hd hi hlt (by rw [atO_name hlt]; exact hm) (hac _ hlt)
    exact ih (atO os r) hlt (by omega) (by simpa using hx)
   ·exact ⟨i,hi,hf,hr⟩
theorem rto_done {os:List DObj} {d:List Bool} (hl:d.length=os.length) {i:Nat} (hi:i < os.length) (hr:ready os d os[i]=true):∀ k,i < k→(rto os d k).getD i false=true:=by
 intro k
 induction k with
 | zero=>intro h; omega
 | succ k ih =>
   intro h
   by_cases e:i < k
   ·exact rstep_le os (by rw [rto_len,hl]) k i (ih e)
   ·obtain rfl:i=k:=by omega
    rw [rto,rstep_at hi]
    have h1:=ready_le (rto_le os hl i) hr
    rw [h1,Bool.and_true]
    cases hx:(rto os d i).getD i false
    ·rw [Bool.not_false,if_pos rfl,setD (by rw [rto_len,hl]; exact hi),if_pos rfl]
    ·rw [Bool.not_true,if_neg (by simp),hx]
theorem drnds_count {os:List DObj} (hd:NmDiff os) (hcl:∀ o∈os,∀ r∈o.refs,atO os r < os.length) (hac:∀ i (hi:i < os.length),¬ Rch os (os[i]).refs (os[i]).name) :
  ∀ k,(drnds os k).count false≤os.length - k:=by
 intro k
 induction k with
 | zero=>rw [drnds,List.count_replicate_self]; omega
 | succ k ih =>
   rw [drnds]
   have hl:=drnds_len os k
   have hle:=rto_le os hl os.length
   by_cases h0:(drnds os k).count false=0
   ·have:=le_count (by rw [rto_len]) hle
    omega
   ·have hex:∃ i,∃ hi:i < os.length,(drnds os k).getD i false=false:=by
      have hm:false∈drnds os k:=by
       cases hc:(drnds os k).count false with
       | zero=>exact absurd hc h0
       | succ n=>exact List.count_pos_iff.1 (by omega)
      obtain ⟨i,hi,he⟩:=List.getElem_of_mem hm
      exact ⟨i,by omega,by rw [List.getD_eq_getElem?_getD,List.getElem?_eq_getElem hi,he]; rfl⟩
    obtain ⟨i,hi,hf⟩:=hex
    obtain ⟨j,hj,hf2,hr⟩:=some_ready hd hcl hac _ _ i hi (Nat.le_refl _) hf
    have:=lt_count (by rw [rto_len]) hle hf2 (rto_done hl hj hr os.length hj)
    omega
/-- The rounds tell whether something reaches itself. -/
theorem roundOk_iff {os:List DObj} (hd:NmDiff os) (hcl:∀ o∈os,∀ r∈o.refs,atO os r < os.length):roundOk os=true↔∀ i (hi:i < os.length),¬ Rch os (os[i]).refs (os[i]).name:=by
 rw [roundOk,decide_eq_true_eq]
 constructor
 ·intro h i hi
  exact (drnds_inv hd os.length i hi (count_all h (by rw [drnds_len]; exact hi))).2
 ·intro h
  have:=drnds_count hd hcl h os.length
  omega
/-! ### what a search finds -/
/-- From what was found before, the names and all that they reach were found. -/
structure Found (os:List DObj) (ns:List (List Int)) (p q:List Int→Bool):Prop where
 le:∀ x,p x=true→q x=true
 all:∀ x∈ns,atO os x < os.length→q x=true
 closed:∀ x,q x=true→p x=false→∀ y∈refsAt os x,atO os y < os.length→q y=true
 only:∀ x,q x=true→p x=true∨Rch os ns x
theorem Found.nil (os:List DObj) (p:List Int→Bool):Found os [] p p:=⟨fun _ h=>h,fun _ h _=>(by simp at h),fun x h1 h2=>(by rw [h1] at h2; cases h2),fun x h=>Or.inl h⟩
/-- One more name, which is no object or was found already. -/
theorem Found.skip {os:List DObj} {ns:List (List Int)} {p q:List Int→Bool} (h:Found os ns p q) {x:List Int} (hx:atO os x < os.length→q x=true):Found os (ns++[x]) p q:=by
 refine ⟨h.le,fun y hy hd=>?_,h.closed,fun y hy=>(h.only y hy).imp id fun hr=>hr.mono fun z hz=>List.mem_append_left _ hz⟩
 rcases List.mem_append.1 hy with h1 | h1
 ·exact h.all y h1 hd
 ·obtain rfl:=List.mem_singleton.1 h1
  exact hx hd
/-- One more name, an object that was not found: it is, and all that it reaches. -/
theorem Found.more {os:List DObj} {ns:List (List Int)} {p q q1 q2:List Int→Bool} (h:Found os ns p q) {x:List Int} (hx:atO os x < os.length) (hq:q x=false) (h1:∀ y,q1 y=(decide (y=x) || q y)) (h2:Found os (refsAt os x) q1 q2) :
  Found os (ns++[x]) p q2:=by
 have hle:∀ y,q y=true→q2 y=true:=fun y hy=>h2.le y (by rw [h1,hy,Bool.or_true])
 have hxx:q2 x=true:=h2.le x (by rw [h1,decide_eq_true rfl,Bool.true_or])
 have hb:Rch os (ns++[x]) x:=.base (by simp) hx
 refine ⟨fun y hy=>hle y (h.le y hy),fun y hy hd=>?_,fun y hy hp z hz hd=>?_,fun y hy=>?_⟩
 ·rcases List.mem_append.1 hy with h3 | h3
  ·exact hle y (h.all y h3 hd)
  ·obtain rfl:=List.mem_singleton.1 h3
   exact hxx
 ·by_cases e:y=x
  ·subst e
   exact h2.all z hz hd
  ·cases hqy:q y
   ·exact h2.closed y hy (by rw [h1,decide_eq_false e,hqy]; rfl) z hz hd
   ·exact hle z (h.closed y hqy hp z hz hd)
 ·rcases h2.only y hy with h3 | h3
  ·rw [h1,Bool.or_eq_true,decide_eq_true_eq] at h3
   rcases h3 with rfl | h3
   ·exact Or.inr hb
   ·exact (h.only y h3).imp id fun hr=>hr.mono fun z hz=>List.mem_append_left _ hz
  ·exact Or.inr (hb.trans h3)
theorem Found.whole {os:List DObj} {ns:List (List Int)} {q:List Int→Bool} (h:Found os ns (fun _=>false) q) (x:List Int):q x=true↔Rch os ns x:=by
 constructor
 ·intro hq
  rcases h.only x hq with h1 | h1
  ·cases h1
  ·exact h1
 ·intro hr
  induction hr with
  | base hm hd=>exact h.all _ hm hd
  | step _ hy hd ih=>exact h.closed _ ih rfl _ hy hd
end Go.Proofs.YtgaadpkefncnmaaGreatDoor
/-
  The validity of a store, in plain lists: as the model asks it, and as the program does.
-/
namespace Go.Proofs.YtgaadpkefncnmaaGreatDoor
open Go.RowKit
set_option linter.unusedVariables false
set_option linter.unusedSimpArgs false
/-! ### the order -/
theorem lessL_irrefl:∀ a:List Int,lessL a a=false
 | []=>rfl
 | x :: a=>by rw [lessL,lessL_irrefl a,Bool.and_false,Bool.or_false]; exact decide_eq_false (by omega)
theorem lessL_trans:∀ {a b c:List Int},lessL a b=true→lessL b c=true→lessL a c=true
 | _,[],_,h,_=>by simp [lessL] at h
 | _,_ :: _,[],_,h=>by simp [lessL] at h
 | [],_ :: _,_ :: _,_,_=>rfl
 | x :: a,y :: b,z :: c,h1,h2=>by
   rw [lessL,Bool.or_eq_true,Bool.and_eq_true,decide_eq_true_eq,beq_iff_eq] at h1 h2 ⊢
   rcases h1 with h1 | ⟨rfl,h1⟩
   ·rcases h2 with h2 | ⟨rfl,h2⟩
    ·exact Or.inl (by omega)
    ·exact Or.inl h1
   ·rcases h2 with h2 | ⟨rfl,h2⟩
    ·exact Or.inl h2
    ·exact Or.inr ⟨rfl,lessL_trans h1 h2⟩
/-- The i-th object is valid, stands behind the one before it, and refers to objects. -/
def objAt (os:List DObj) (i:Nat):Bool :=
 match os[i]? with
 | some o=>objOk o && ((decide (i=0) || lessL ((os[i - 1]?.map DObj.name).getD []) o.name) && o.refs.all (fun r=>decide (atO os r < os.length)))
 | none=>true
def objsOk (os:List DObj):Bool:=(List.range os.length).all (objAt os)
/-- The i-th realisation is that of an output, and stands behind the one before it. -/
def realThere (s:DStore) (r:DReal):Bool :=
 match s.objs[atO s.objs r.path]? with
 | some o=>decide (o.kind=2) && (decide (o.frm=r.drv) && decide (o.out=r.out))
 | none=>false
def realAt (s:DStore) (i:Nat):Bool :=
 match s.reals[i]? with
 | some r=>realThere s r && (decide (i=0) || (match s.reals[i - 1]? with | some p=>decide (realCmp p r < 0) | none=>true))
 | none=>true
def realsOk (s:DStore):Bool:=(List.range s.reals.length).all (realAt s)
def storeOk (s:DStore):Bool :=
 decide (s.objs.length≤24) && (ascP nameOk s.roots && (decide (s.reals.length≤24) && (objsOk s.objs && (roundOk s.objs && (s.roots.all (fun r=>decide (atO s.objs r < s.objs.length)) && realsOk s)))))
theorem rangeAll {p:Nat→Bool} {n:Nat} : (List.range n).all p=true↔∀ m,m < n→p m=true:=by
 rw [List.all_eq_true]
 exact ⟨fun h m hm=>h m (List.mem_range.2 hm),fun h m hm=>h m (List.mem_range.1 hm)⟩
theorem objAt_eq {os:List DObj} {i:Nat} (h:i < os.length):objAt os i=(objOk os[i] && ((decide (i=0) || lessL ((os[i - 1]?.map DObj.name).getD []) (os[i]).name) && (os[i]).refs.all (fun r=>decide (atO os r < os.length)))):=by
 rw [objAt,List.getElem?_eq_getElem h]
theorem objAt_refs {os:List DObj} (h:objsOk os=true):∀ o∈os,∀ r∈o.refs,atO os r < os.length:=by
 intro o ho r hr
 obtain ⟨i,hi,rfl⟩:=List.getElem_of_mem ho
 have:=rangeAll.1 h i hi
 rw [objAt_eq hi,Bool.and_eq_true,Bool.and_eq_true,List.all_eq_true] at this
 exact of_decide_eq_true (this.2.2 r hr)
/-- The i-th object is valid and stands behind the one before it. -/
def objAscAt (os:List DObj) (i:Nat):Bool :=
 match os[i]? with
 | some o=>objOk o && (decide (i=0) || lessL ((os[i - 1]?.map DObj.name).getD []) o.name)
 | none=>true
def objsAsc (os:List DObj):Bool:=(List.range os.length).all (objAscAt os)
theorem objAscAt_eq {os:List DObj} {i:Nat} (h:i < os.length):objAscAt os i=(objOk os[i] && (decide (i=0) || lessL ((os[i - 1]?.map DObj.name).getD []) (os[i]).name)):=by
 rw [objAscAt,List.getElem?_eq_getElem h]
theorem objsAsc_less {os:List DObj} (h:objsAsc os=true):∀ (d i:Nat) (hi:i + d + 1 < os.length),lessL (os[i]).name (os[i + d + 1]).name=true:=by
 have h1:∀ i (hi:i + 1 < os.length),lessL (os[i]).name (os[i + 1]).name=true:=by
  intro i hi
  have:=rangeAll.1 h (i + 1) hi
  rw [objAscAt_eq hi,Bool.and_eq_true,Bool.or_eq_true,decide_eq_true_eq,Nat.add_sub_cancel,List.getElem?_eq_getElem (show i < os.length by omega)] at this
  rcases this.2 with h2 | h2
  ·omega
  ·exact h2
 intro d
 induction d with
 | zero=>exact fun i hi=>h1 i hi
 | succ d ih=>exact fun i hi=>lessL_trans (ih i (by omega)) (h1 (i + d + 1) hi)
theorem objsAsc_diff {os:List DObj} (h:objsAsc os=true):NmDiff os:=by
 intro i j hi hj he
 rcases Nat.lt_trichotomy i j with h1 | h1 | h1
 ·obtain ⟨d,rfl⟩:∃ d,j=i + d + 1:=⟨j - i - 1,by omega⟩
  have:=objsAsc_less h d i hj
  rw [he,lessL_irrefl] at this
  cases this
 ·exact h1
 ·obtain ⟨d,rfl⟩:∃ d,i=j + d + 1:=⟨i - j - 1,by omega⟩
  have:=objsAsc_less h d j hi
  rw [he,lessL_irrefl] at this
  cases this
theorem objsAsc_ok {os:List DObj} (h:objsAsc os=true) {i:Nat} (hi:i < os.length):objOk os[i]=true:=by
 have:=rangeAll.1 h i hi
 rw [objAscAt_eq hi,Bool.and_eq_true] at this
 exact this.1
/-- All that the objects refer to is there, and none reaches itself. -/
def RefsOk (os:List DObj):Prop:=∀ i (hi:i < os.length),(∀ r∈(os[i]).refs,atO os r < os.length)∧¬ Rch os (os[i]).refs (os[i]).name
theorem objsOk_iff (os:List DObj):(objsOk os=true∧roundOk os=true)↔(objsAsc os=true∧RefsOk os):=by
 constructor
 ·rintro ⟨h1,h2⟩
  have hA:objsAsc os=true:=rangeAll.2 fun i hi=>by
   have:=rangeAll.1 h1 i hi
   rw [objAt_eq hi,Bool.and_eq_true,Bool.and_eq_true] at this
   rw [objAscAt_eq hi,Bool.and_eq_true]
   exact ⟨this.1,this.2.1⟩
  exact ⟨hA,fun i hi=>⟨objAt_refs h1 _ (List.getElem_mem hi),(roundOk_iff (objsAsc_diff hA) (objAt_refs h1)).1 h2 i hi⟩⟩
 ·rintro ⟨h1,h2⟩
  have hA:objsOk os=true:=rangeAll.2 fun i hi=>by
   have:=rangeAll.1 h1 i hi
   rw [objAscAt_eq hi,Bool.and_eq_true] at this
   rw [objAt_eq hi,Bool.and_eq_true,Bool.and_eq_true,List.all_eq_true]
   exact ⟨this.1,this.2,fun r hr=>decide_eq_true ((h2 i hi).1 r hr)⟩
  exact ⟨hA,(roundOk_iff (objsAsc_diff h1) (objAt_refs hA)).2 fun i hi=>(h2 i hi).2⟩
/-- A realisation without its path: an input. -/
def asIn (r:DReal):DIn:=⟨r.drv,r.out⟩
theorem realAt_eq {s:DStore} {i:Nat} (h:i < s.reals.length):realAt s i=(realThere s s.reals[i] && (decide (i=0) || (match s.reals[i - 1]? with | some p=>inLess (asIn p) (asIn s.reals[i]) | none=>true))):=by
 rw [realAt,List.getElem?_eq_getElem h]
 rfl
/-- What the program asks, in its order. -/
theorem storeOk_iff (s:DStore):storeOk s=true↔s.objs.length≤24∧s.reals.length≤24∧objsAsc s.objs=true∧ascP nameOk s.roots=true∧RefsOk s.objs∧s.roots.all (fun r=>decide (atO s.objs r < s.objs.length))=true∧realsOk s=true:=by
 unfold storeOk
 simp only [Bool.and_eq_true,decide_eq_true_eq]
 have h:=objsOk_iff s.objs
 constructor
 ·rintro ⟨h1,h2,h3,h4,h5,h6,h7⟩
  obtain ⟨h8,h9⟩:=h.1 ⟨h4,h5⟩
  exact ⟨h1,h3,h8,h2,h9,h6,h7⟩
 ·rintro ⟨h1,h3,h8,h2,h9,h6,h7⟩
  obtain ⟨h4,h5⟩:=h.2 ⟨h8,h9⟩
  exact ⟨h1,h2,h3,h4,h5,h6,h7⟩
end Go.Proofs.YtgaadpkefncnmaaGreatDoor
/-
  compareObjs, compareReals.
-/
namespace Go.Proofs.YtgaadpkefncnmaaGreatDoor
open Go.RowKit
set_option linter.unusedVariables false
set_option linter.unusedSimpArgs false
set_option maxRecDepth 20000 in
set_option maxHeartbeats 1600000 in
theorem implCmpObjs (a b:DObj) (ha:oks a.cells) (hb:oks b.cells) (ua ub:List Value) (w:World) (hsa:Ins w a.cells ua) (hsb:Ins w b.cells ub) :
  Calls Tryz.prog 117 #[.agg ua.toArray,.agg ub.toArray] w fun e w'=>e=.returned (.int .i64 (cmpI a.name b.name))∧Below w.heap.size w w':=by
 obtain ⟨Aa0,ca0,Aa3,ca3,Aa4,ca4,Aa5,ca5,Aa6,ca6,Aa7,ca7,Aa8,ca8,rfl,ha0,ha3,ha4,ha5,ha6,ha7,ha8⟩:=DObj.view hsa
 obtain ⟨Ab0,cb0,Ab3,cb3,Ab4,cb4,Ab5,cb5,Ab6,cb6,Ab7,cb7,Ab8,cb8,rfl,hb0,hb3,hb4,hb5,hb6,hb7,hb8⟩:=DObj.view hsb
 obtain ⟨wa,hwa⟩:∃ wa,w.alloc (.cells #[.slice Aa0 a.name.length ca0,.int .i64 a.kind,.int .i64 a.tree.kind,.slice Aa3 a.tree.data.length ca3,.slice Aa4 a.tree.names.length ca4,.slice Aa5 a.tree.kids.length ca5,.slice Aa6 a.refs.length ca6,.slice Aa7 a.frm.length ca7,.slice Aa8 a.out.length ca8] 49)=wa:=⟨_,rfl⟩
 have baa:Below w.heap.size w wa:=by rw [← hwa]; exact (Below.refl _ _).alloc (Nat.le_refl _) _
 have bxa:Box wa w.heap.size 49 [.slice Aa0 a.name.length ca0,.int .i64 a.kind,.int .i64 a.tree.kind,.slice Aa3 a.tree.data.length ca3,.slice Aa4 a.tree.names.length ca4,.slice Aa5 a.tree.kids.length ca5,.slice Aa6 a.refs.length ca6,.slice Aa7 a.frm.length ca7,.slice Aa8 a.out.length ca8]:=by rw [← hwa]; exact Box.new w _ _
 have hza:w.heap.size < wa.heap.size:=bxa.lt
 obtain ⟨wb,hwb⟩:∃ wb,wa.alloc (.cells #[.slice Ab0 b.name.length cb0,.int .i64 b.kind,.int .i64 b.tree.kind,.slice Ab3 b.tree.data.length cb3,.slice Ab4 b.tree.names.length cb4,.slice Ab5 b.tree.kids.length cb5,.slice Ab6 b.refs.length cb6,.slice Ab7 b.frm.length cb7,.slice Ab8 b.out.length cb8] 49)=wb:=⟨_,rfl⟩
 have bab:Below wa.heap.size wa wb:=by rw [← hwb]; exact (Below.refl _ _).alloc (Nat.le_refl _) _
 have bxb:Box wb wa.heap.size 49 [.slice Ab0 b.name.length cb0,.int .i64 b.kind,.int .i64 b.tree.kind,.slice Ab3 b.tree.data.length cb3,.slice Ab4 b.tree.names.length cb4,.slice Ab5 b.tree.kids.length cb5,.slice Ab6 b.refs.length cb6,.slice Ab7 b.frm.length cb7,.slice Ab8 b.out.length cb8]:=by rw [← hwb]; exact Box.new wa _ _
 have hzb:wa.heap.size < wb.heap.size:=bxb.lt
 have bel:Below w.heap.size w wb:=baa.trans (bab.mono baa.size)
 have bxa2:=bxa.step bab
 have x0:=bxa2.cell (j:=0) rfl
 have z0:=bxb.cell (j:=0) rfl
 have hc:=compare a.name b.name _ _ wb ((ha0.step bel).rd) ((hb0.step bel).rd)
 generalize cmpI a.name b.name=Z at *
 have HC:=hide hc
 have HB:=hide bel
 clear hc bel baa bab bxa bxb bxa2 ha0 hb0 ha3 hb3 ha4 hb4 ha5 hb5 ha6 hb6 ha7 hb7 ha8 hb8 hsa hsb ha hb
 go_enter Tryz.func117,Tryz.ntmps117
 go_wp2_with fail
 refine HC.out.mono ?_
 rintro e w1 ⟨rfl,rfl⟩
 go_wp2_with fail
 go_ret
 exact ⟨rfl,HB.out⟩
theorem objn_byt {o:DObj} (h:oks o.cells):Byt o.name:=((DObj.oks_iff o).1 h).1
theorem objAscAt_more {os:List DObj} {k:Nat} (h:k < os.length) (h0:k≠0):objAscAt os k=(objOk os[k] && lessL (os[k - 1]'(by omega)).name (os[k]).name):=by
 rw [objAscAt_eq h,decide_eq_false h0,List.getElem?_eq_getElem (show k - 1 < os.length by omega)]
 rfl
set_option maxRecDepth 20000 in
set_option maxHeartbeats 1600000 in
theorem implCmpReals (a b:DReal) (ha:oks a.cells) (hb:oks b.cells) (ua ub:List Value) (w:World) (hsa:Ins w a.cells ua) (hsb:Ins w b.cells ub) :
  Calls Tryz.prog 123 #[.agg ua.toArray,.agg ub.toArray] w fun e w'=>e=.returned (.int .i64 (inCmpI (asIn a) (asIn b)))∧Below w.heap.size w w':=by
 obtain ⟨Aa0,ca0,Aa1,ca1,Aa2,ca2,rfl,ha0,ha1,ha2⟩:=DReal.view hsa
 obtain ⟨Ab0,cb0,Ab1,cb1,Ab2,cb2,rfl,hb0,hb1,hb2⟩:=DReal.view hsb
 obtain ⟨wa,hwa⟩:∃ wa,w.alloc (.cells #[.slice Aa0 a.drv.length ca0,.slice Aa1 a.out.length ca1,.slice Aa2 a.path.length ca2] 106)=wa:=⟨_,rfl⟩
 have baa:Below w.heap.size w wa:=by rw [← hwa]; exact (Below.refl _ _).alloc (Nat.le_refl _) _
 have bxa:Box wa w.heap.size 106 [.slice Aa0 a.drv.length ca0,.slice Aa1 a.out.length ca1,.slice Aa2 a.path.length ca2]:=by rw [← hwa]; exact Box.new w _ _
 have hza:w.heap.size < wa.heap.size:=bxa.lt
 obtain ⟨wb,hwb⟩:∃ wb,wa.alloc (.cells #[.slice Ab0 b.drv.length cb0,.slice Ab1 b.out.length cb1,.slice Ab2 b.path.length cb2] 106)=wb:=⟨_,rfl⟩
 have bab:Below wa.heap.size wa wb:=by rw [← hwb]; exact (Below.refl _ _).alloc (Nat.le_refl _) _
 have bxb:Box wb wa.heap.size 106 [.slice Ab0 b.drv.length cb0,.slice Ab1 b.out.length cb1,.slice Ab2 b.path.length cb2]:=by rw [← hwb]; exact Box.new wa _ _
 have hzb:wa.heap.size < wb.heap.size:=bxb.lt
 have bel:Below w.heap.size w wb:=baa.trans (bab.mono baa.size)
 have bxa2:=bxa.step bab
 have x0:=bxa2.cell (j:=0) rfl
 have x1:=bxa2.cell (j:=1) rfl
 have z0:=bxb.cell (j:=0) rfl
 have z1:=bxb.cell (j:=1) rfl
 have oa:=(DReal.oks_iff a).1 ha
 have ob:=(DReal.oks_iff b).1 hb
 have hc:=implInCmp (asIn a) (asIn b) ((DIn.oks_iff _).2 ⟨oa.1,oa.2.1⟩) ((DIn.oks_iff _).2 ⟨ob.1,ob.2.1⟩) [.slice Aa0 a.drv.length ca0,.slice Aa1 a.out.length ca1] [.slice Ab0 b.drv.length cb0,.slice Ab1 b.out.length cb1] wb
  (DIn.lay (x:=asIn a) (ha0.step bel) (ha1.step bel)) (DIn.lay (x:=asIn b) (hb0.step bel) (hb1.step bel))
 generalize inCmpI (asIn a) (asIn b)=Z at *
 have HC:=hide hc
 have HB:=hide bel
 clear hc bel baa bab bxa bxb bxa2 oa ob ha0 hb0 ha1 hb1 ha2 hb2 hsa hsb ha hb
 go_enter Tryz.func123,Tryz.ntmps123
 go_wp2_with fail
 refine HC.out.mono ?_
 rintro e w1 ⟨rfl,b1⟩
 have HB1:=hide (HB.out.trans (b1.mono HB.out.size))
 clear b1
 go_wp2_with fail
 go_ret
 exact ⟨rfl,HB1.out⟩
end Go.Proofs.YtgaadpkefncnmaaGreatDoor
/-
  realOk: the program.
-/
namespace Go.Proofs.YtgaadpkefncnmaaGreatDoor
open Go.RowKit
set_option linter.unusedVariables false
set_option linter.unusedSimpArgs false
/-- The objects under their names. -/
structure ObjF (w:World) (os:List DObj) (f:List Int→Option Value):Prop where
 none_:∀ nm,¬ atO os nm < os.length→f nm=none
 some_:∀ nm (h:atO os nm < os.length),∃ us:List Value,f nm=some (.agg us.toArray)∧Ins w (os[atO os nm]).cells us
theorem ObjF.step {w w' : World} {os:List DObj} {f:List Int→Option Value} (h:ObjF w os f) (hb:Below w.heap.size w w'):ObjF w' os f :=
 ⟨h.none_,fun nm hn=>let ⟨us,h1,h2⟩:=h.some_ nm hn; ⟨us,h1,h2.step hb⟩⟩
theorem ObjF.isSome {w:World} {os:List DObj} {f:List Int→Option Value} (h:ObjF w os f) (nm:List Int):(f nm).isSome=decide (atO os nm < os.length):=by
 by_cases hn:atO os nm < os.length
 ·obtain ⟨us,h1,_⟩:=h.some_ nm hn
  rw [h1,decide_eq_true hn]; rfl
 ·rw [h.none_ nm hn,decide_eq_false hn]; rfl
theorem ObjF.shape {w:World} {os:List DObj} {f:List Int→Option Value} (h:ObjF w os f):ShapeO f:=by
 intro nm x hx
 by_cases hn:atO os nm < os.length
 ·obtain ⟨us,h1,h2⟩:=h.some_ nm hn
  rw [h1] at hx
  injection hx with hx
  subst hx
  obtain ⟨A0,c0,A3,c3,A4,c4,A5,c5,A6,c6,A7,c7,A8,c8,rfl,h0,h3,h4,h5,h6,h7,h8⟩:=DObj.view h2
  exact ⟨_,_,_,_,_,_,_,_,_,_,_,_,_,_,_,_,_,_,_,_,_,_,_,rfl⟩
 ·rw [h.none_ nm hn] at hx
  cases hx
set_option maxRecDepth 20000 in
set_option maxHeartbeats 1600000 in
theorem implRealOk (s:DStore) (f:List Int→Option Value) (hoks:∀ o∈s.objs,oks o.cells) (mr mo:Option Nat) (Av:Option Addr) (nv cv:Nat) (r:DReal) (hr:oks r.cells) (hbr:bulks r.cells≤1048576) (ur:List Value) (w:World) (hF:ObjF w s.objs f) (hm:MapO w (.map mo) f) (hs:Ins w r.cells ur) :
  Calls Tryz.prog 122 #[.agg #[.map mr,.map mo,.slice Av nv cv],.agg ur.toArray] w fun e w'=>e=.returned (.bool (realThere s r))∧Below w.heap.size w w':=by
 obtain ⟨A0,c0,A1,c1,A2,c2,rfl,h0,h1,h2⟩:=DReal.view hs
 obtain ⟨wk,hwk⟩:∃ wk,w.alloc (.cells #[.map mr,.map mo,.slice Av nv cv] 85)=wk:=⟨_,rfl⟩
 have bk:Below w.heap.size w wk:=by rw [← hwk]; exact (Below.refl _ _).alloc (Nat.le_refl _) _
 have bxk:Box wk w.heap.size 85 [.map mr,.map mo,.slice Av nv cv]:=by rw [← hwk]; exact Box.new w _ _
 obtain ⟨wa,hwa⟩:∃ wa,wk.alloc (.cells #[.slice A0 r.drv.length c0,.slice A1 r.out.length c1,.slice A2 r.path.length c2] 106)=wa:=⟨_,rfl⟩
 have ba:Below wk.heap.size wk wa:=by rw [← hwa]; exact (Below.refl _ _).alloc (Nat.le_refl _) _
 have bx:Box wa wk.heap.size 106 [.slice A0 r.drv.length c0,.slice A1 r.out.length c1,.slice A2 r.path.length c2]:=by rw [← hwa]; exact Box.new wk _ _
 have hz:wk.heap.size < wa.heap.size:=bx.lt
 have bel:Below w.heap.size w wa:=bk.trans (ba.mono bk.size)
 have bxk2:=bxk.step ba
 have k1:=bxk2.cell (j:=1) rfl
 have x0:=bx.cell (j:=0) rfl
 have x1:=bx.cell (j:=1) rfl
 have x2:=bx.cell (j:=2) rfl
 obtain ⟨or0,or1,or2⟩:=(DReal.oks_iff r).1 hr
 have hbr2:=bulk_Real r
 have hcv:=conv_rd (P:=Tryz.prog) Tryz.underlying39 Tryz.underlying5 Tryz.underlying9 ((h2.step bel).rd)
 have hlk:=(hm.step bel).look1 (t:=83) Tryz.underlying83 (zeroObj wa) or2 (by omega)
 have HB:=hide bel
 by_cases hin:atO s.objs r.path < s.objs.length
 ·obtain ⟨uo,hf,hins⟩:=hF.some_ _ hin
  have hdef:realThere s r=(decide ((s.objs[atO s.objs r.path]).kind=2) && (decide ((s.objs[atO s.objs r.path]).frm=r.drv) && decide ((s.objs[atO s.objs r.path]).out=r.out))):=by rw [realThere,List.getElem?_eq_getElem hin]
  have hoo:=hoks _ (List.getElem_mem hin)
  rw [hf] at hlk
  generalize s.objs[atO s.objs r.path]=o at *
  obtain ⟨Ao0,co0,Ao3,co3,Ao4,co4,Ao5,co5,Ao6,co6,Ao7,co7,Ao8,co8,rfl,ho0,ho3,ho4,ho5,ho6,ho7,ho8⟩:=DObj.view hins
  obtain ⟨ob0,-,-,ob6,ob7,ob8⟩:=(DObj.oks_iff o).1 hoo
  obtain ⟨wo,hwo⟩:∃ wo,wa.alloc (.cells #[.slice Ao0 o.name.length co0,.int .i64 o.kind,.int .i64 o.tree.kind,.slice Ao3 o.tree.data.length co3,.slice Ao4 o.tree.names.length co4,.slice Ao5 o.tree.kids.length co5,.slice Ao6 o.refs.length co6,.slice Ao7 o.frm.length co7,.slice Ao8 o.out.length co8] 49)=wo:=⟨_,rfl⟩
  have bo:Below wa.heap.size wa wo:=by rw [← hwo]; exact (Below.refl _ _).alloc (Nat.le_refl _) _
  have bxo:Box wo wa.heap.size 49 [.slice Ao0 o.name.length co0,.int .i64 o.kind,.int .i64 o.tree.kind,.slice Ao3 o.tree.data.length co3,.slice Ao4 o.tree.names.length co4,.slice Ao5 o.tree.kids.length co5,.slice Ao6 o.refs.length co6,.slice Ao7 o.frm.length co7,.slice Ao8 o.out.length co8]:=by rw [← hwo]; exact Box.new wa _ _
  have belo:Below w.heap.size w wo:=bel.trans (bo.mono bel.size)
  have o1:=bxo.cell (j:=1) rfl
  have o4:=bxo.cell (j:=7) rfl
  have o5:=bxo.cell (j:=8) rfl
  have y0:=(bx.step bo).cell (j:=0) rfl
  have y1:=(bx.step bo).cell (j:=1) rfl
  have HE1:=hide (bytesEq o.frm r.drv ob7 or0 _ _ wo ((ho7.step belo).rd) ((h0.step belo).rd))
  have HE2:=hide (bytesEq o.out r.out ob8 or1 _ _ wo ((ho8.step belo).rd) ((h1.step belo).rd))
  have HD:=hide hdef
  have HBO:=hide belo
  generalize decide (o.frm=r.drv)=X at *
  generalize decide (o.out=r.out)=Y at *
  clear hdef hoo hins hf hF hm hs h0 h1 h2 bx bxk bxk2 ba bk bel hr or0 or1 or2 hbr2 hbr bo bxo belo ho0 ho3 ho4 ho5 ho6 ho7 ho8 ob0 ob6 ob7 ob8 hin
  by_cases hk:o.kind=2
  ·rw [hk] at o1 hwo hlk
   cases X with
   | false =>
     have HR:=hide (show realThere s r=false by rw [HD.out]; simp)
     go_enter Tryz.func122,Tryz.ntmps122
     go_wp2_with fail
     refine HE1.out.mono ?_
     rintro e w1 ⟨rfl,rfl⟩
     go_wp2_with fail
     go_ret
     exact ⟨ret_bool HR.out.symm,HBO.out⟩
   | true =>
     have HR:=hide (show realThere s r=Y by rw [HD.out,hk]; simp)
     go_enter Tryz.func122,Tryz.ntmps122
     go_wp2_with fail
     refine HE1.out.mono ?_
     rintro e w1 ⟨rfl,rfl⟩
     go_wp2_with fail
     refine HE2.out.mono ?_
     rintro e w2 ⟨rfl,rfl⟩
     go_wp2_with fail
     go_ret
     exact ⟨ret_bool HR.out.symm,HBO.out⟩
  ·have hk2:(o.kind == 2)=false:=by simp [hk]
   have HR:=hide (show realThere s r=false by rw [HD.out,decide_eq_false hk]; rfl)
   go_enter Tryz.func122,Tryz.ntmps122
   go_wp2_with fail
   go_ret
   exact ⟨ret_bool HR.out.symm,HBO.out⟩
 ·have hdef:realThere s r=false:=by rw [realThere,List.getElem?_eq_none (by omega)]
  have HR:=hide hdef
  rw [hF.none_ _ hin] at hlk
  have hlk2:(Instr.lookup 83 (.map mo) (.string (strOfNums r.path)) false).run Tryz.prog wa=.ok (.agg #[.slice none 0 0,.int .i64 0,.int .i64 0,.slice none 0 0,.slice none 0 0,.slice none 0 0,.slice none 0 0,.slice none 0 0,.slice none 0 0]) wa:=hlk
  clear hlk hdef hF hm hs h0 h1 h2 bx bxk bxk2 ba bk bel hr or0 or1 or2 hbr2 hbr hin
  go_enter Tryz.func122,Tryz.ntmps122
  go_wp2_with fail
  go_ret
  exact ⟨ret_bool HR.out.symm,HB.out.alloc HB.out.size _⟩
end Go.Proofs.YtgaadpkefncnmaaGreatDoor
/-
  What the store's functions answer, in plain lists.
-/
namespace Go.Proofs.YtgaadpkefncnmaaGreatDoor
open Go.RowKit
set_option linter.unusedVariables false
set_option linter.unusedSimpArgs false
def objNamesR (s:DStore):List (List Int):=if storeOk s then objNames s.objs else []
open Classical in
noncomputable def closureR (s:DStore) (n:List Int):List (List Int):=if storeOk s=true then (objNames s.objs).filter (fun x=>decide (Rch s.objs [n] x)) else []
def usersR (s:DStore) (n:List Int):List (List Int):=if storeOk s then (objNames s.objs).filter (fun x=>decide (n∈refsAt s.objs x)) else []
theorem filter1 {α:Type} (p:α→Bool) (x:α) : [x].filter p=if p x then [x] else []:=by cases h:p x <;> simp [h]
theorem cnts_namesL (ns:List (List Int)):(names ns).cnt≤bulks (cells (fun n=>[raw n]) ns):=by
 rw [names,Cel.cnt]
 induction ns with
 | nil=>simp [cells,cnts,bulks]
 | cons n ns ih =>
   rw [cells,cnts_app,bulks_app]
   have:cnts [raw n]≤bulks [raw n]:=by
    simp only [cnts,bulks,raw,Cel.cnt,Cel.bulk]
    have:∀ l:List Int,cnts (l.map (Cel.num .u8))=l.length:=by
     intro l
     induction l with
     | nil=>rfl
     | cons x l ih=>simp only [List.map_cons,cnts,ih,num_cnt,List.length_cons]; omega
    rw [this]
    omega
   omega
theorem bulks_objNames (os:List DObj):bulks (cells (fun n=>[raw n]) (objNames os))≤bulks (cells DObj.cells os):=by
 induction os with
 | nil=>exact Nat.le_refl _
 | cons o os ih =>
   have e:objNames (o :: os)=o.name :: objNames os:=rfl
   rw [e,cells,cells,bulks_app,bulks_app]
   have:bulks [raw o.name]≤bulks o.cells:=by
    rw [o.cells_eq]
    simp only [bulks]
    omega
   omega
theorem bulks_objs (s:DStore):bulks (cells DObj.cells s.objs)≤bulks s.cells:=by
 rw [s.cells_eq]
 simp only [bulks,Cel.bulk]
 omega
theorem bulks_sublist {α:Type} {f:α→List Cel} {a b:List α} (h:a.Sublist b):bulks (cells f a)≤bulks (cells f b):=by
 induction h with
 | slnil=>exact Nat.le_refl _
 | cons x h ih=>rw [cells,bulks_app]; omega
 | cons_cons x h ih=>rw [cells,cells,bulks_app,bulks_app]; omega
theorem objNamesR_cnt (s:DStore) (hb:bulks s.cells≤1048576):(names (objNamesR s)).cnt≤274877906944:=by
 have h:=cnts_namesL (objNamesR s)
 have h2:bulks (cells (fun n=>[raw n]) (objNamesR s))≤bulks s.cells:=by
  rw [objNamesR]
  split
  ·exact Nat.le_trans (bulks_objNames s.objs) (bulks_objs s)
  ·simp [cells,bulks]
 omega
end Go.Proofs.YtgaadpkefncnmaaGreatDoor
/-
  The names of a map, ascending.
-/
namespace Go.Proofs.YtgaadpkefncnmaaGreatDoor
open Go.RowKit Go.Maps
set_option linter.unusedVariables false
def nmB (n:List Int):List UInt8:=(strOfNums n).data.toList
theorem kyS_nmB (n:List Int):kyS n=.string (nmB n):=rfl
theorem nmB_back (x:List UInt8):∃ n,Byt n∧nmB n=x:=by
 refine ⟨x.map fun b=>(b.toNat:Int),fun y hy=>?_,?_⟩
 ·obtain ⟨b,-,rfl⟩:=List.mem_map.1 hy
  have:=b.toNat_lt
  omega
 ·unfold nmB
  rw [strOfNums_data,List.map_map]
  have:((fun n:Int=>UInt8.ofNat n.toNat) ∘ fun b:UInt8=>(b.toNat:Int))=id:=by
   funext b
   simp
  rw [this,List.map_id]
theorem nmB_inj {a b:List Int} (ha:Byt a) (hb:Byt b) (h:nmB a=nmB b):a=b:=kyS_inj ha hb (by rw [kyS_nmB,kyS_nmB,h])
theorem nmB_less {a b:List Int} (ha:Byt a) (hb:Byt b) (h:lessL a b=true):nmB a < nmB b:=by
 have h1:=less_str ha hb
 rw [h,ByteArray.toList_eq,ByteArray.toList_eq,bytesLess_eq] at h1
 exact of_decide_eq_true h1
/-- l are the names at which f has a value, ascending. -/
structure NamesOf (f:List Int→Option Value) (l:List (List Int)):Prop where
 asc:l.Pairwise (fun a b=>lessL a b=true)
 byt:∀ n∈l,Byt n
 mem:∀ n,Byt n→((f n).isSome=true↔n∈l)
theorem NamesOf.nil {f:List Int→Option Value} (h:∀ n,f n=none):NamesOf f []:=⟨List.Pairwise.nil,fun _ h=>(by cases h),fun n _=>by rw [h n]; simp⟩
/-- What slices.Sorted makes of the keys. -/
theorem NamesOf.sorted {w:World} {b n:Nat} {D:DataW Value} {f:List Int→Option Value} {c:Nat} {l:List (List Int)} (h:NamesOf f l) (hown:w.ownsMap Tryz.prog 9 rdV b n D) (hf:Fun D f c) {ss:List (List UInt8)} (hp:ss.Perm (strKeys D)) :
  ss.mergeSort leB=l.map nmB:=by
 have hle:(l.map nmB).Pairwise (fun a b=>leB a b=true):=by
  refine List.pairwise_map.2 (h.asc.imp_of_mem fun {a b} ha hb hl=>?_)
  exact decide_eq_true (List.le_of_lt (nmB_less (h.byt a ha) (h.byt b hb) hl))
 have hnd:(l.map nmB).Nodup:=by
  refine List.pairwise_map.2 (h.asc.imp_of_mem fun {a b} ha hb hl e=>?_)
  obtain rfl:=nmB_inj (h.byt a ha) (h.byt b hb) e
  rw [lessL_irrefl] at hl
  cases hl
 have hco:Collected D (fun _=>false) (l.map nmB):=⟨hnd,fun x=>by
  obtain ⟨n,hn,rfl⟩:=nmB_back x
  rw [← kyS_nmB,hf.has_ n hn,h.mem n hn,List.mem_map]
  constructor
  ·rintro ⟨m,hm,e⟩
   obtain rfl:=nmB_inj (h.byt m hm) hn e
   exact ⟨hm,rfl⟩
  ·exact fun hm=>⟨n,hm.1,rfl⟩⟩
 have hpm:=Collected.perm hco hown strKeyed Tryz.underlying9 (fun _=>rfl)
 rw [mergeSort_of_perm (hp.trans hpm.symm)]
 exact List.mergeSort_of_pairwise hle
end Go.Proofs.YtgaadpkefncnmaaGreatDoor
/-
  Regions of a function.
-/
namespace Go.Proofs.YtgaadpkefncnmaaGreatDoor
open Go.RowKit
set_option linter.unusedVariables false
set_option linter.unusedSimpArgs false
/-- A region of a function, by its number. -/
def regionOf (n:Nat):Code→Option Code
 | .region m ops d=>if m=n then some (.region m ops d) else none
 | .loop c=>regionOf n c
 | .seq a b=>match regionOf n a with
   | some c=>some c
   | none=>regionOf n b
 | .block _ c=>regionOf n c
 | .scope c=>regionOf n c
 | .cond _ a b=>match regionOf n a with
   | some c=>some c
   | none=>regionOf n b
 | _=>none
noncomputable def regS (n:Nat):Code:=((Tryz.f60.body.bind (regionOf n)).getD .skip)
end Go.Proofs.YtgaadpkefncnmaaGreatDoor
/-
  reach: the program.
-/
namespace Go.Proofs.YtgaadpkefncnmaaGreatDoor
open Go.RowKit
set_option linter.unusedVariables false
set_option linter.unusedSimpArgs false
/-- A set, as a function. -/
def setF (q:List Int→Bool):List Int→Option Value:=fun n=>if q n then some (.bool true) else none
theorem setF_isSome (q:List Int→Bool) (n:List Int):(setF q n).isSome=q n:=by
 unfold setF
 cases q n <;> rfl
theorem setF_upd (q:List Int→Bool) (x:List Int):upd (setF q) x (some (.bool true))=setF (fun y=>decide (y=x) || q y):=by
 funext y
 unfold upd setF
 by_cases e:y=x
 ·simp [e]
 ·simp [e]
/-- How many objects were not found. -/
def undisc (os:List DObj) (q:List Int→Bool):Nat:=(os.filter fun o=>!q o.name).length
theorem undisc_le {os:List DObj} {q q' : List Int→Bool} (h:∀ x,q x=true→q' x=true):undisc os q'≤undisc os q:=by
 unfold undisc
 induction os with
 | nil=>exact Nat.le_refl _
 | cons o os ih =>
   rw [List.filter_cons,List.filter_cons]
   have h1:=h o.name
   cases ha:q o.name <;> cases hb:q' o.name <;> rw [ha,hb] at h1 <;> simp at h1 ⊢ <;> omega
theorem undisc_less {os:List DObj} {q:List Int→Bool} {x:List Int} (hx:atO os x < os.length) (hq:q x=false):undisc os (fun y=>decide (y=x) || q y) < undisc os q:=by
 unfold undisc
 exact filter_lt (p:=fun o:DObj=>!(decide (o.name=x) || q o.name)) (q:=fun o=>!q o.name) (fun o _ ho=>by
  simp only [Bool.not_eq_true',Bool.or_eq_false_iff] at ho ⊢
  exact ho.2) (List.getElem_mem hx) (by rw [atO_name hx]; simp) (by rw [atO_name hx,hq]; rfl)
theorem Box.grown {W W' : World} {b:Nat} {ty:TypeId} {vs:List Value} {row:Option Nat} (h:Box W b ty vs) (hg:W.grownBy W' row) (hne:some b≠row):Box W' b ty vs:=by
 exact (hg.block b h.lt hne).trans h
set_option maxRecDepth 20000 in
set_option maxHeartbeats 6400000 in
theorem implReach (w0:World) (os:List DObj) (f:List Int→Option Value) (hoks:∀ o∈os,oks o.cells) (hbk:∀ o∈os,bulks o.cells≤1048576) (mr:Option Nat) (bo no co:Nat) (Av:Option Addr) (nv cv:Nat) (B:Nat)
  (hF:ObjF w0 os f) (hm:MapV w0 bo no f co) (hlo:w0.heap.size≤B) (N:Nat) :
  ∀ (q:List Int→Bool) (nB cB:Nat) (ns:List (List Int)) (v:Value) (w:World),BytN ns→(∀ n∈ns,n.length≤1048576)→ns.length≤1048576→RdN w0 v ns→Below w0.heap.size w0 w→MapV w B nB (setF q) cB→undisc os q≤N→nB + undisc os q≤1000 →
  Calls Tryz.prog 133 #[.agg #[.map mr,.map (some bo),.slice Av nv cv],.map (some B),v] w fun e w'=>e=.returned (.tuple #[])∧∃ q' nB' cB',MapV w' B nB' (setF q') cB'∧nB' + undisc os q'≤nB + undisc os q∧Found os ns q q'∧w.grownBy w' (some B):=by
 induction N using Nat.strongRecOn with
 | ind N ih =>
 intro q nB cB ns v w hB hl hn hv hbw hs hun hnB
 have hBlt:=hs.lt
 obtain ⟨wk,hwk⟩:∃ wk,w.alloc (.cells #[.map mr,.map (some bo),.slice Av nv cv] 85)=wk:=⟨_,rfl⟩
 have bk:Below w.heap.size w wk:=by rw [← hwk]; exact (Below.refl _ _).alloc (Nat.le_refl _) _
 have bxk:Box wk w.heap.size 85 [.map mr,.map (some bo),.slice Av nv cv]:=by rw [← hwk]; exact Box.new w _ _
 have hbk0:Below w0.heap.size w0 wk:=hbw.trans (bk.mono hbw.size)
 have HGK:=hide (show w.grownBy wk (some B) from ⟨bk.os,bk.tape,bk.output,bk.size,fun k hk _=>bk.block k hk⟩)
 have hsk:=hs.step bk
 have hnek:some w.heap.size≠some B:=by simp; omega
 obtain ⟨A,c,rfl,hc1,hc2⟩:=names_len hv
 obtain ⟨M,hM⟩:∃ M,ns.length=M:=⟨_,rfl⟩
 rw [hM] at hc1 hv hn ⊢
 unfold maxLen at hc2
 have HNL:=hide hM
 have HNN:=hide hv
 have HLL:=hide hl
 have HBB:=hide hB
 have HF:=hide hF
 have HM:=hide hm
 have HK:=hide bxk
 have HBK:=hide hbk0
 have HS0:=hide hsk
 have HIH:=hide ih
 have HUN:=hide hun
 have HNB:=hide hnB
 have HOK:=hide hoks
 have HBU:=hide hbk
 have HLO:=hide hlo
 have HNEK:=hide hnek
 clear hM hv hl hB hF hm bxk hbk0 hsk ih hun hnB hoks hbk hlo hs hbw bk hnek
 go_enter Tryz.func133,Tryz.ntmps133
 go_wp2
 go_loopw [12] (fun i wr=>∃ j:Nat,j≤M∧i=.int .i64 j∧Hid (∃ q' nB' cB',MapV wr B nB' (setF q') cB'∧nB' + undisc os q'≤nB + undisc os q∧Found os (ns.take j) q q')∧Hid (wk.grownBy wr (some B))) (fun i _=>M - (intOf i).toNat)
 case atStart=>exact ⟨0,Nat.zero_le _,rfl,hide ⟨q,nB,cB,HS0.out,Nat.le_refl _,Found.nil os q⟩,hide (World.grownBy.refl _ _)⟩
 case round =>
  obtain ⟨j,hj,rfl,HQ,HG⟩:=hrel
  have hb0:Below w0.heap.size w0 wr:=HBK.out.grown HG.out HBK.out.size (fun k hk=>by have:=HLO.out; injection hk with hk; omega)
  have hbxr:=HK.out.grown HG.out HNEK.out
  have k1_:=hbxr.cell (j:=1) rfl
  by_cases hlt:j < M
  ·obtain ⟨q',nB',cB',hs',hnB',hfd⟩:=HQ.out
   have hjn:j < ns.length:=by rw [HNL.out]; exact hlt
   obtain ⟨b,off,x,hA',hblt,cx,rx⟩:=HNN.out.get hjn
   subst hA'
   have q1:=(hb0.cell (p:=⟨b,off + j,none⟩) hblt).trans cx
   have hmj:ns.getD j []∈ns:=by simp [List.getD,List.getElem?_eq_getElem hjn]
   have hlj:=HLL.out _ hmj
   have hbj:=HBB.out _ hmj
   have htk:ns.take (j + 1)=ns.take j++[ns.getD j []]:=by
    rw [List.take_succ_eq_append_getElem hjn]
    simp [List.getD,List.getElem?_eq_getElem hjn]
   have i1:(j:Int) < (M:Int):=by omega
   have i0:(0:Int)≤(j:Int):=by omega
   have i2:(j:Int).toNat=j:=by omega
   generalize ns.getD j []=n at *
   have hcv:=conv_rd (P:=Tryz.prog) Tryz.underlying39 Tryz.underlying5 Tryz.underlying9 (rx.below hb0)
   have hlk:=(HM.out.step hb0).look (t:=83) Tryz.underlying83 (zeroObj wr) hbj (by omega)
   obtain ⟨A0,n0,c0,e1,e2,A3,n3,c3,A4,n4,c4,A5,n5,c5,A6,n6,c6,A7,n7,c7,A8,n8,c8,hV⟩:=HF.out.shape.getD n
   have hsome:=HF.out.isSome n
   rw [hV,hsome] at hlk
   obtain ⟨wo,hwo⟩:∃ wo,wr.alloc (.cells #[.slice A0 n0 c0,.int .i64 e1,.int .i64 e2,.slice A3 n3 c3,.slice A4 n4 c4,.slice A5 n5 c5,.slice A6 n6 c6,.slice A7 n7 c7,.slice A8 n8 c8] 49)=wo:=⟨_,rfl⟩
   have bo_:Below wr.heap.size wr wo:=by rw [← hwo]; exact (Below.refl _ _).alloc (Nat.le_refl _) _
   have bxo:Box wo wr.heap.size 49 [.slice A0 n0 c0,.int .i64 e1,.int .i64 e2,.slice A3 n3 c3,.slice A4 n4 c4,.slice A5 n5 c5,.slice A6 n6 c6,.slice A7 n7 c7,.slice A8 n8 c8]:=by rw [← hwo]; exact Box.new wr _ _
   have hso:=hs'.step bo_
   have hgo:wr.grownBy wo (some B):=⟨bo_.os,bo_.tape,bo_.output,bo_.size,fun k hk _=>bo_.block k hk⟩
   have hgo2:wk.grownBy wo (some B):=HG.out.andThen hgo (fun _ h=>Or.inr h)
   have hb1:Below w0.heap.size w0 wo:=hb0.trans (bo_.mono hb0.size)
   have hcvo:=conv_rd (P:=Tryz.prog) Tryz.underlying39 Tryz.underlying5 Tryz.underlying9 (rx.below hb1)
   have kbo:=(hbxr.step bo_)
   have o6:=bxo.cell (j:=6) rfl
   have HGO:=hide hgo2
   have HFD:=hide hfd
   have HTK:=hide htk
   have HNB':=hide hnB'
   by_cases hin:atO os n < os.length
   ·rw [decide_eq_true hin] at hlk
    have hhas:=hasB (.map (some B)) (setF q') n hbj x wo hso.o (rx.below hb1) (by omega)
    rw [setF_isSome] at hhas
    cases hqn:q' n with
    | true =>
      rw [hqn] at hhas
      have HH:=hide hhas
      have HSO:=hide hso
      have hf2:Found os (ns.take (j + 1)) q q':=by rw [HTK.out]; exact HFD.out.skip (fun _=>hqn)
      have HF2:=hide hf2
      clear hhas hso hgo hgo2 hb0 hb1 hs' hfd htk hnB' hbxr kbo bxo bo_ hV hsome hmj hlj hbj cx rx hf2 hcvo o6
      go_wp2_with fail
      refine HH.out.mono ?_
      rintro e w2 ⟨rfl,rfl⟩
      go_wp2_with fail
      go_roundw
      case rel=>exact ⟨j + 1,by omega,by go_num,hide ⟨q',nB',cB',HSO.out,HNB'.out,HF2.out⟩,HGO⟩
      case measure=>simp [intOf]; omega
    | false =>
      rw [hqn] at hhas
      have HH:=hide hhas
      obtain ⟨us,hf1,hins⟩:=HF.out.some_ n hin
      have hus:(.agg us.toArray:Value)=.agg #[.slice A0 n0 c0,.int .i64 e1,.int .i64 e2,.slice A3 n3 c3,.slice A4 n4 c4,.slice A5 n5 c5,.slice A6 n6 c6,.slice A7 n7 c7,.slice A8 n8 c8]:=by rw [← hV,hf1]; rfl
      injection hus with hus
      have hus2:us = [.slice A0 n0 c0,.int .i64 e1,.int .i64 e2,.slice A3 n3 c3,.slice A4 n4 c4,.slice A5 n5 c5,.slice A6 n6 c6,.slice A7 n7 c7,.slice A8 n8 c8]:=by simpa using congrArg Array.toList hus
      subst hus2
      have hoo:=HOK.out _ (List.getElem_mem hin)
      have hob:=HBU.out _ (List.getElem_mem hin)
      have hob2:=bulk_Obj (os[atO os n])
      have hrB:=((DObj.oks_iff _).1 hoo).2.2.2.1
      have hrf:RdN w0 (.slice A6 n6 c6) (os[atO os n]).refs:=by
       obtain ⟨A0',c0',A3',c3',A4',c4',A5',c5',A6',c6',A7',c7',A8',c8',e',-,-,-,-,h6',-,-⟩:=DObj.view hins
       simp only [List.cons.injEq,Value.slice.injEq,and_true,true_and] at e'
       obtain ⟨-,-,-,-,-,-,⟨rfl,rfl,rfl⟩,-⟩:=e'
       exact h6'.rdN
      have hless:=undisc_less hin hqn
      have hrat:refsAt os n=(os[atO os n]).refs:=refsAt_at hin
      have hul:=undisc_le (os:=os) (fun y hy=>HFD.out.le y hy)
      have HIH2:=hide (fun w2 cB2 (hb2:Below w0.heap.size w0 w2) (hs2:MapV w2 B (nB' + 1) (setF fun y=>decide (y=n) || q' y) cB2) =>
       HIH.out (undisc os (fun y=>decide (y=n) || q' y)) (by have:=HUN.out; omega) (fun y=>decide (y=n) || q' y) (nB' + 1) cB2 (os[atO os n]).refs (.slice A6 n6 c6) w2 hrB (fun r hr=>by have:=sumLen_mem2 hr; omega) (by omega) hrf hb2 hs2 (Nat.le_refl _) (by have:=HNB.out; omega))
      have hle1000:nB'≤1000:=by have:=HNB.out; omega
      have HFF:=hide (fun q2 (h:Found os (os[atO os n]).refs (fun y=>decide (y=n) || q' y) q2)=>show Found os (ns.take (j + 1)) q q2 by
       rw [HTK.out]
       exact HFD.out.more hin hqn (fun y=>rfl) (by rw [hrat]; exact h))
      have HKB:=hide kbo
      have HXO:=hide bxo
      have HB1:=hide hb1
      have hBo:some wr.heap.size≠some B:=by have:=hs'.lt; simp; omega
      have HNEO:=hide hBo
      have HLS:=hide hless
      have hnl:n.length≤1048576:=hlj
      clear hhas hgo hgo2 hb0 hb1 hs' hfd htk hnB' hbxr kbo bxo bo_ hV hsome hmj cx rx hins hoo hob hob2 hrB hrf hless hrat hul hf1 hus hBo
      go_wp2_with fail
      refine HH.out.mono ?_
      rintro e w2 ⟨rfl,rfl⟩
      go_wp2_with (at_mapUpdate; refine wpList_putV _ rfl _ _ _ 79 rfl 4 Tryz.underlying79 B nB' (setF q') cB' rfl hso (by omega) n hbj hnl (.bool true) rfl rfl ?_; intro w3 hm3 hg3; rw [setF_upd] at hm3; have hb3:=HB1.out.grown hg3 HB1.out.size (fun k hk=>(by have:=HLO.out; injection hk with hk; omega)); have HC3:=hide (HIH2.out w3 _ hb3 hm3); have hk3:=HKB.out.grown hg3 HNEK.out; have hx3:=HXO.out.grown hg3 HNEO.out; have s0:=hk3.cell (j:=0) rfl; have s1:=hk3.cell (j:=1) rfl; have s2:=hk3.cell (j:=2) rfl; have t6:=hx3.cell (j:=6) rfl; have HG3:=hide (HGO.out.andThen hg3 (fun _ h=>Or.inr h)); clear hm3 hg3 hb3 hk3 hx3 o6 k1_ q1 hlk hcv hcvo hso)
      refine HC3.out.mono ?_
      rintro e w4 ⟨rfl,q4,n4_,c4_,hm4,hn4,hf4,hg4⟩
      have HQ4:=hide (show ∃ q' nB' cB',MapV w4 B nB' (setF q') cB'∧nB' + undisc os q'≤nB + undisc os q∧Found os (ns.take (j + 1)) q q' from ⟨q4,n4_,c4_,hm4,by have:=HNB'.out; have:=HLS.out; omega,HFF.out q4 hf4⟩)
      have HG4:=hide (HG3.out.andThen hg4 (fun _ h=>Or.inr h))
      clear hm4 hn4 hf4 hg4 s0 s1 s2 t6
      go_wp2_with fail
      go_roundw
      case rel=>exact ⟨j + 1,by omega,by go_num,HQ4,HG4⟩
      case measure=>simp [intOf]; omega
   ·rw [decide_eq_false hin] at hlk
    have HSO:=hide hso
    have hf2:Found os (ns.take (j + 1)) q q':=by rw [HTK.out]; exact HFD.out.skip (fun h=>absurd h hin)
    have HF2:=hide hf2
    clear hso hgo hgo2 hb0 hb1 hs' hfd htk hnB' hbxr kbo bxo bo_ hV hsome hmj hlj hbj cx rx hf2 hcvo o6
    go_wp2_with fail
    go_roundw
    case rel=>exact ⟨j + 1,by omega,by go_num,hide ⟨q',nB',cB',HSO.out,HNB'.out,HF2.out⟩,HGO⟩
    case measure=>simp [intOf]; omega
  ·obtain rfl:j=M:=by omega
   have HQ2:=hide (show ∃ q' nB' cB',MapV wr B nB' (setF q') cB'∧nB' + undisc os q'≤nB + undisc os q∧Found os ns q q' by
    obtain ⟨q',nB',cB',h1,h2,h3⟩:=HQ.out
    rw [List.take_of_length_le (by rw [HNL.out]; omega)] at h3
    exact ⟨q',nB',cB',h1,h2,h3⟩)
   clear HQ hbxr
   go_wp2_with fail
   refine bodyPost_end (results_none rfl _ _ _) rfl ?_
   obtain ⟨q',nB',cB',h1,h2,h3⟩:=HQ2.out
   exact ⟨rfl,q',nB',cB',h1,h2,h3,HGK.out.andThen HG.out (fun _ h=>Or.inr h)⟩
end Go.Proofs.YtgaadpkefncnmaaGreatDoor
/-
  The names of a map, sorted: maps.Keys and slices.Sorted at the program's two kinds of map.
-/
namespace Go.Proofs.YtgaadpkefncnmaaGreatDoor
open Go.RowKit Go.Maps Go.Sort Go.Shelf
set_option linter.unusedVariables false
theorem sortsK (m:Nat):AnyZ.SortsIn Tryz.prog Tryz.sortedS_ren Fence.wide m :=
 ⟨fun blk off cap ss W hH hblk hsz=>callsIn_wide.2 (AnyM.slices_Sort_string Tryz.sortS blk off cap ss W hH hblk hsz),fun p cap W=>callsIn_wide.2 (AnyM.slices_Sort_string_none Tryz.sortS p cap W)⟩
theorem enc_nmB (n:List Int):encStr (nmB n)=.string (strOfNums n):=by
 unfold encStr nmB
 simp
theorem keysCallO (mb:Option Nat) (W:World):Calls Tryz.prog 125 #[.map mb] W fun e w'=>e=.returned (.func (.func 172) #[] #[.pointer (some ⟨W.heap.size,0,none⟩)])∧w' = W.alloc (.cells #[.map mb] 83) :=
 callsIn_wide.1 (AnyZ.keys_in Tryz.keysO Fence.wide 5 trivial rfl mb W)
set_option maxHeartbeats 1000000 in
theorem sortedCallO {b n c:Nat} {f:List Int→Option Value} {l:List (List Int)} (w:World) (hm:MapV w b n f c) (hl:NamesOf f l) (hn:n≤1048576) :
  Calls Tryz.prog 124 #[.func (.func 172) #[] #[.pointer (some ⟨w.heap.size,0,none⟩)]] (w.alloc (.cells #[.map (some b)] 83)) fun e w'=>∃ v,e=.returned v ∧
   w'.ownsRow (w.heap.size + 1) 9 1 v l.length (l.map fun n=>.string (strOfNums n))∧Below (w.heap.size + 1) (w.alloc (.cells #[.map (some b)] 83)) w':=by
 have hc:=hm.size_le
 obtain ⟨D,hown,hf⟩:=hm
 have hsz:Maps.size D≤1048576:=by rw [hf.size_]; omega
 have hbl:=hown.lt
 have hseq:SeqGives Fence.wide 2 Tryz.prog 172 #[.pointer (some ⟨w.heap.size,0,none⟩)] encStr (fun ss=>ss.Perm (strKeys D)) (Maps.size D) (w.alloc (.cells #[.map (some b)] 83)) :=
  AnyZ.keys_gives (ρ:=Tryz.keysO_ren) { Tryz.keysO with } Fence.wide _ trivial rfl (by omega) w.heap.size b n D _ (by simp) (by simp) (by
   obtain ⟨es,clock,hb,rest⟩:=hown
   exact ⟨es,clock,(Below.heap_alloc _ _ b hbl).trans hb,rest⟩)
 have h:=callsIn_wide.1 (AnyZ.sorted_in Tryz.sortedS Fence.wide 5 trivial trivial trivial trivial rfl (by omega) (sortsK _) (enters_of Tryz.func171 (by kernel_rfl) rfl) 172 #[.pointer (some ⟨w.heap.size,0,none⟩)] trivial (enters_of Tryz.func172 (by kernel_rfl) rfl) _ _ (by unfold maxLen; omega) (by omega) _ hseq)
 refine h.mono ?_
 rintro e w' ⟨v,ss,rfl,hS,hrow,-,hb⟩
 have hso:=hl.sorted hown hf hS
 have hlen:ss.length=l.length:=by
  have h1:=congrArg List.length hso
  rw [List.length_mergeSort,List.length_map] at h1
  exact h1
 refine ⟨v,rfl,?_,by simpa using hb⟩
 have hrow2:=hrow
 rw [show (ss.mergeSort fun x y=>decide (x≤y))=l.map nmB from hso,hlen,List.map_map] at hrow2
 have e1:(encStr ∘ nmB)=fun n=>Value.string (strOfNums n):=by
  funext n
  exact enc_nmB n
 rw [e1] at hrow2
 simp only [World.size_alloc] at hrow2
 exact hrow2
theorem keysCallB (mb:Option Nat) (W:World):Calls Tryz.prog 134 #[.map mb] W fun e w'=>e=.returned (.func (.func 174) #[] #[.pointer (some ⟨W.heap.size,0,none⟩)])∧w' = W.alloc (.cells #[.map mb] 79) :=
 callsIn_wide.1 (AnyZ.keys_in Tryz.keysB Fence.wide 5 trivial rfl mb W)
set_option maxHeartbeats 1000000 in
theorem sortedCallB {b n c:Nat} {f:List Int→Option Value} {l:List (List Int)} (w:World) (hm:MapV w b n f c) (hl:NamesOf f l) (hn:n≤1048576) :
  Calls Tryz.prog 124 #[.func (.func 174) #[] #[.pointer (some ⟨w.heap.size,0,none⟩)]] (w.alloc (.cells #[.map (some b)] 79)) fun e w'=>∃ v,e=.returned v ∧
   w'.ownsRow (w.heap.size + 1) 9 1 v l.length (l.map fun n=>.string (strOfNums n))∧Below (w.heap.size + 1) (w.alloc (.cells #[.map (some b)] 79)) w':=by
 have hc:=hm.size_le
 obtain ⟨D,hown,hf⟩:=hm
 have hsz:Maps.size D≤1048576:=by rw [hf.size_]; omega
 have hbl:=hown.lt
 have hseq:SeqGives Fence.wide 2 Tryz.prog 174 #[.pointer (some ⟨w.heap.size,0,none⟩)] encStr (fun ss=>ss.Perm (strKeys D)) (Maps.size D) (w.alloc (.cells #[.map (some b)] 79)) :=
  AnyZ.keys_gives (ρ:=Tryz.keysB_ren) { Tryz.keysB with } Fence.wide _ trivial rfl (by omega) w.heap.size b n D _ (by simp) (by simp) (by
   obtain ⟨es,clock,hb,rest⟩:=hown
   exact ⟨es,clock,(Below.heap_alloc _ _ b hbl).trans hb,rest⟩)
 have h:=callsIn_wide.1 (AnyZ.sorted_in Tryz.sortedS Fence.wide 5 trivial trivial trivial trivial rfl (by omega) (sortsK _) (enters_of Tryz.func171 (by kernel_rfl) rfl) 174 #[.pointer (some ⟨w.heap.size,0,none⟩)] trivial (enters_of Tryz.func174 (by kernel_rfl) rfl) _ _ (by unfold maxLen; omega) (by omega) _ hseq)
 refine h.mono ?_
 rintro e w' ⟨v,ss,rfl,hS,hrow,-,hb⟩
 have hso:=hl.sorted hown hf hS
 have hlen:ss.length=l.length:=by
  have h1:=congrArg List.length hso
  rw [List.length_mergeSort,List.length_map] at h1
  exact h1
 refine ⟨v,rfl,?_,by simpa using hb⟩
 have hrow2:=hrow
 rw [show (ss.mergeSort fun x y=>decide (x≤y))=l.map nmB from hso,hlen,List.map_map] at hrow2
 have e1:(encStr ∘ nmB)=fun n=>Value.string (strOfNums n):=by
  funext n
  exact enc_nmB n
 rw [e1] at hrow2
 simp only [World.size_alloc] at hrow2
 exact hrow2
end Go.Proofs.YtgaadpkefncnmaaGreatDoor
/-
  sorted: the names of a map, ascending, in new memory.
-/
namespace Go.Proofs.YtgaadpkefncnmaaGreatDoor
open Go.RowKit Go.Maps Go.Sort Go.Shelf
set_option linter.unusedVariables false
set_option linter.unusedSimpArgs false
/-- A map or nil, of not too many entries. -/
def MapS (w:World) (mb:Option Nat) (f:List Int→Option Value):Prop:=(mb=none∧∀ nm,f nm=none)∨∃ b n c,mb=some b∧MapV w b n f c∧n≤1048576
theorem MapS.step {w w' : World} {mb:Option Nat} {f:List Int→Option Value} (h:MapS w mb f) (hb:Below w.heap.size w w'):MapS w' mb f:=by
 rcases h with h | ⟨b,n,c,h1,h2,h3⟩
 ·exact Or.inl h
 ·exact Or.inr ⟨b,n,c,h1,h2.step hb,h3⟩
theorem MapS.nil (w:World):MapS w none (fun _=>none):=Or.inl ⟨rfl,fun _=>rfl⟩
set_option maxHeartbeats 1000000 in
theorem sortedCallO0 (w:World) :
  Calls Tryz.prog 124 #[.func (.func 172) #[] #[.pointer (some ⟨w.heap.size,0,none⟩)]] (w.alloc (.cells #[.map none] 83)) fun e w'=>∃ v,e=.returned v ∧
   w'.ownsRow (w.heap.size + 1) 9 1 v 0 []∧Below (w.heap.size + 1) (w.alloc (.cells #[.map none] 83)) w':=by
 have hseq:SeqGives Fence.wide 2 Tryz.prog 172 #[.pointer (some ⟨w.heap.size,0,none⟩)] encStr (fun ss:List (List UInt8)=>ss = []) 0 (w.alloc (.cells #[.map none] 83)) :=
  AnyZ.keys_gives_nil (ρ:=Tryz.keysO_ren) { Tryz.keysO with } Fence.wide _ trivial rfl w.heap.size _ (by simp) (by simp)
 have h:=callsIn_wide.1 (AnyZ.sorted_in Tryz.sortedS Fence.wide 5 trivial trivial trivial trivial rfl (by omega) (sortsK _) (enters_of Tryz.func171 (by kernel_rfl) rfl) 172 #[.pointer (some ⟨w.heap.size,0,none⟩)] trivial (enters_of Tryz.func172 (by kernel_rfl) rfl) _ _ (by unfold maxLen; omega) (by omega) _ hseq)
 refine h.mono ?_
 rintro e w' ⟨v,ss,rfl,hS,hrow,-,hb⟩
 have hS2:ss = []:=hS
 subst hS2
 refine ⟨v,rfl,?_,by simpa using hb⟩
 have hrow2:=hrow
 simp only [World.size_alloc,List.mergeSort_nil,List.map_nil,List.length_nil] at hrow2
 exact hrow2
theorem sortedCallOS {mb:Option Nat} {f:List Int→Option Value} {l:List (List Int)} (w:World) (hm:MapS w mb f) (hl:NamesOf f l) :
  Calls Tryz.prog 124 #[.func (.func 172) #[] #[.pointer (some ⟨w.heap.size,0,none⟩)]] (w.alloc (.cells #[.map mb] 83)) fun e w'=>∃ v,e=.returned v ∧
   w'.ownsRow (w.heap.size + 1) 9 1 v l.length (l.map fun n=>.string (strOfNums n))∧Below (w.heap.size + 1) (w.alloc (.cells #[.map mb] 83)) w':=by
 rcases hm with ⟨rfl,h0⟩ | ⟨b,n,c,rfl,h2,h3⟩
 ·have hl0:l = []:=by
    cases l with
    | nil=>rfl
    | cons x l =>
      have:=(hl.mem x (hl.byt x (List.mem_cons_self ..))).2 (List.mem_cons_self ..)
      rw [h0 x] at this
      cases this
  subst hl0
  exact sortedCallO0 w
 ·exact sortedCallO w h2 hl h3
set_option maxHeartbeats 1000000 in
theorem sortedCallB0 (w:World) :
  Calls Tryz.prog 124 #[.func (.func 174) #[] #[.pointer (some ⟨w.heap.size,0,none⟩)]] (w.alloc (.cells #[.map none] 79)) fun e w'=>∃ v,e=.returned v ∧
   w'.ownsRow (w.heap.size + 1) 9 1 v 0 []∧Below (w.heap.size + 1) (w.alloc (.cells #[.map none] 79)) w':=by
 have hseq:SeqGives Fence.wide 2 Tryz.prog 174 #[.pointer (some ⟨w.heap.size,0,none⟩)] encStr (fun ss:List (List UInt8)=>ss = []) 0 (w.alloc (.cells #[.map none] 79)) :=
  AnyZ.keys_gives_nil (ρ:=Tryz.keysB_ren) { Tryz.keysB with } Fence.wide _ trivial rfl w.heap.size _ (by simp) (by simp)
 have h:=callsIn_wide.1 (AnyZ.sorted_in Tryz.sortedS Fence.wide 5 trivial trivial trivial trivial rfl (by omega) (sortsK _) (enters_of Tryz.func171 (by kernel_rfl) rfl) 174 #[.pointer (some ⟨w.heap.size,0,none⟩)] trivial (enters_of Tryz.func174 (by kernel_rfl) rfl) _ _ (by unfold maxLen; omega) (by omega) _ hseq)
 refine h.mono ?_
 rintro e w' ⟨v,ss,rfl,hS,hrow,-,hb⟩
 have hS2:ss = []:=hS
 subst hS2
 refine ⟨v,rfl,?_,by simpa using hb⟩
 have hrow2:=hrow
 simp only [World.size_alloc,List.mergeSort_nil,List.map_nil,List.length_nil] at hrow2
 exact hrow2
theorem sortedCallBS {mb:Option Nat} {f:List Int→Option Value} {l:List (List Int)} (w:World) (hm:MapS w mb f) (hl:NamesOf f l) :
  Calls Tryz.prog 124 #[.func (.func 174) #[] #[.pointer (some ⟨w.heap.size,0,none⟩)]] (w.alloc (.cells #[.map mb] 79)) fun e w'=>∃ v,e=.returned v ∧
   w'.ownsRow (w.heap.size + 1) 9 1 v l.length (l.map fun n=>.string (strOfNums n))∧Below (w.heap.size + 1) (w.alloc (.cells #[.map mb] 79)) w':=by
 rcases hm with ⟨rfl,h0⟩ | ⟨b,n,c,rfl,h2,h3⟩
 ·have hl0:l = []:=by
    cases l with
    | nil=>rfl
    | cons x l =>
      have:=(hl.mem x (hl.byt x (List.mem_cons_self ..))).2 (List.mem_cons_self ..)
      rw [h0 x] at this
      cases this
  subst hl0
  exact sortedCallB0 w
 ·exact sortedCallB w h2 hl h3
end Go.Proofs.YtgaadpkefncnmaaGreatDoor
namespace Go.Proofs.YtgaadpkefncnmaaGreatDoor
open Go.RowKit
set_option maxRecDepth 20000 in
set_option maxHeartbeats 3200000 in
theorem sortedO (mb:Option Nat) (f:List Int→Option Value) (l:List (List Int)) (w:World) (hm:MapS w mb f) (hl:NamesOf f l) (hn:l.length≤1048576) (hk:∀ n∈l,n.length≤1048576) :
  Calls Tryz.prog 65 #[.map mb] w fun e w'=>∃ v F,e=.returned v∧RowF w.heap.size w' 39 1 l.length (rawss l) v F∧Below w.heap.size w w':=by
 obtain ⟨wk,hwk⟩:∃ wk,w.alloc (.cells #[.map mb] 83)=wk:=⟨_,rfl⟩
 have bk:Below w.heap.size w wk:=by rw [← hwk]; exact (Below.refl _ _).alloc (Nat.le_refl _) _
 have hkk:=keysCallO mb w
 have hss:=sortedCallOS w hm hl
 have hzk:wk.heap.size=w.heap.size + 1:=by rw [← hwk]; simp
 rw [hwk] at hkk hss
 rw [← hzk] at hss
 have HK:=hide hkk
 have HS:=hide hss
 have HBK:=hide bk
 have HLB:=hide hl.byt
 have HLK:=hide hk
 obtain ⟨N,hN⟩:∃ N,l.length=N:=⟨_,rfl⟩
 rw [hN] at hn HS ⊢
 have HNL:=hide hN
 clear hm hl hk bk hkk hss hN
 go_enter Tryz.func65,Tryz.ntmps65
 go_wp2_with fail
 refine HK.out.mono ?_
 rintro e w1 ⟨rfl,h1⟩
 subst h1
 go_wp2_with fail
 refine HS.out.mono ?_
 rintro e w2 ⟨v,rfl,own,b2⟩
 have hrd:=own_rdV own (by rw [List.length_map,HNL.out])
 obtain ⟨A,c,rfl,hc1,hc2,hcell⟩:=hrd
 rw [List.length_map,HNL.out] at hc1 hcell ⊢
 unfold maxLen at hc2
 have HB2:=hide (HBK.out.trans (b2.mono HBK.out.size))
 have HC:=hide hcell
 clear own b2 hcell
 go_wp2
 go_loopw [3,10] (fun u i wr=>∃ j:Nat,j≤N∧i=.int .i64 j∧Hid (∃ F,RowF w2.heap.size wr 39 1 j (rawss (l.take j)) u F)∧Hid (Below w2.heap.size w2 wr))
  (fun _ i _=>N - (intOf i).toNat)
 case atStart=>exact ⟨0,Nat.zero_le _,rfl,hide ⟨[],RowF.nil _ _ _ _ (by decide)⟩,hide (Below.refl _ _)⟩
 case round =>
  obtain ⟨j,hj,rfl,HX,HW⟩:=hrel
  by_cases hlt:j < N
  ·have hjn:j < l.length:=by rw [HNL.out]; exact hlt
   obtain ⟨b,off,hA,hb,hcc⟩:=HC.out (by omega)
   subst hA
   have hnm:l.getD j []∈l:=by simp [List.getD,List.getElem?_eq_getElem hjn]
   have q1:wr.cell? ⟨b,off + j,none⟩=some (.string (strOfNums (l.getD j []))):=(HW.out.cell (p:=⟨b,off + j,none⟩) hb).trans (hcc j _ (by simp [List.getElem?_eq_getElem hjn,List.getD]))
   have hlb:=HLB.out _ hnm
   have hlk:=HLK.out _ hnm
   have htk:l.take (j + 1)=l.take j++[l.getD j []]:=by
    rw [List.take_succ_eq_append_getElem hjn]
    simp [List.getD,List.getElem?_eq_getElem hjn]
   generalize l.getD j []=n at *
   obtain ⟨vv,w5,F5,hcv,lie5,fr5,b5⟩:=conv_fresh n hlb hlk wr
   obtain ⟨A5,c5,rfl,hc5,-⟩:=lie5.form
   obtain ⟨F,hR⟩:=HX.out
   have HR5:=hide (hR.row.step b5)
   have HR:=hide hR
   have HL5:=hide (lies_one lie5)
   have HF5:=hide (hR.far fr5)
   have HFR:=hide fr5
   have HB5:=hide b5
   have HW5:=hide (HB2.out.trans ((HW.out.trans (b5.mono HW.out.size)).mono HB2.out.size))
   have HW6:=hide (HW.out.trans (b5.mono HW.out.size))
   have HTK:=hide htk
   have hlo:w2.heap.size≤wr.heap.size:=HW.out.size
   have hlo5:w2.heap.size≤w5.heap.size:=HW6.out.size
   have k1:(j:Int) < (N:Int):=by omega
   have k0:(0:Int)≤(j:Int):=by omega
   have k2:(j:Int).toNat=j:=by omega
   clear hR lie5 fr5 b5 htk hcc hnm hlb HX
   have hj9:j + 1≤274877906944:=by omega
   go_wp2_with (at_builtin; have hq1:=HR5.out; have hq2:=HL5.out; have hq3:=HF5.out; refine wpList_row1 rfl rfl hq1 hq2 hq3 rfl rfl rfl Tryz.underlying23 inf_bytes rfl (by decide) (by decide) hj9 hlo5 ?_; clear hq1 hq2 hq3; intro v3 w3 R3 B3 g3; have HR3:=hide (HR.out.snoc HB5.out HFR.out hlo R3 g3); have HB3:=hide (HW6.out.trans B3); clear R3 B3 g3)
   go_roundw
   case rel=>exact ⟨j + 1,by omega,by go_num,hide ⟨_,by rw [HTK.out,rawss_snoc]; exact HR3.out⟩,HB3⟩
   case measure=>simp [intOf]; omega
  ·obtain rfl:j=N:=by omega
   have e2:l.take j=l:=List.take_of_length_le (by rw [HNL.out]; omega)
   rw [e2] at HX
   clear e2
   go_wp2
   go_ret
   obtain ⟨F,hR⟩:=HX.out
   exact ⟨_,F,rfl,hR.base HB2.out.size,HB2.out.trans (HW.out.mono HB2.out.size)⟩
set_option maxRecDepth 20000 in
set_option maxHeartbeats 3200000 in
theorem sortedB (mb:Option Nat) (f:List Int→Option Value) (l:List (List Int)) (w:World) (hm:MapS w mb f) (hl:NamesOf f l) (hn:l.length≤1048576) (hk:∀ n∈l,n.length≤1048576) :
  Calls Tryz.prog 75 #[.map mb] w fun e w'=>∃ v F,e=.returned v∧RowF w.heap.size w' 39 1 l.length (rawss l) v F∧Below w.heap.size w w':=by
 obtain ⟨wk,hwk⟩:∃ wk,w.alloc (.cells #[.map mb] 79)=wk:=⟨_,rfl⟩
 have bk:Below w.heap.size w wk:=by rw [← hwk]; exact (Below.refl _ _).alloc (Nat.le_refl _) _
 have hkk:=keysCallB mb w
 have hss:=sortedCallBS w hm hl
 have hzk:wk.heap.size=w.heap.size + 1:=by rw [← hwk]; simp
 rw [hwk] at hkk hss
 rw [← hzk] at hss
 have HK:=hide hkk
 have HS:=hide hss
 have HBK:=hide bk
 have HLB:=hide hl.byt
 have HLK:=hide hk
 obtain ⟨N,hN⟩:∃ N,l.length=N:=⟨_,rfl⟩
 rw [hN] at hn HS ⊢
 have HNL:=hide hN
 clear hm hl hk bk hkk hss hN
 go_enter Tryz.func75,Tryz.ntmps75
 go_wp2_with fail
 refine HK.out.mono ?_
 rintro e w1 ⟨rfl,h1⟩
 subst h1
 go_wp2_with fail
 refine HS.out.mono ?_
 rintro e w2 ⟨v,rfl,own,b2⟩
 have hrd:=own_rdV own (by rw [List.length_map,HNL.out])
 obtain ⟨A,c,rfl,hc1,hc2,hcell⟩:=hrd
 rw [List.length_map,HNL.out] at hc1 hcell ⊢
 unfold maxLen at hc2
 have HB2:=hide (HBK.out.trans (b2.mono HBK.out.size))
 have HC:=hide hcell
 clear own b2 hcell
 go_wp2
 go_loopw [3,10] (fun u i wr=>∃ j:Nat,j≤N∧i=.int .i64 j∧Hid (∃ F,RowF w2.heap.size wr 39 1 j (rawss (l.take j)) u F)∧Hid (Below w2.heap.size w2 wr))
  (fun _ i _=>N - (intOf i).toNat)
 case atStart=>exact ⟨0,Nat.zero_le _,rfl,hide ⟨[],RowF.nil _ _ _ _ (by decide)⟩,hide (Below.refl _ _)⟩
 case round =>
  obtain ⟨j,hj,rfl,HX,HW⟩:=hrel
  by_cases hlt:j < N
  ·have hjn:j < l.length:=by rw [HNL.out]; exact hlt
   obtain ⟨b,off,hA,hb,hcc⟩:=HC.out (by omega)
   subst hA
   have hnm:l.getD j []∈l:=by simp [List.getD,List.getElem?_eq_getElem hjn]
   have q1:wr.cell? ⟨b,off + j,none⟩=some (.string (strOfNums (l.getD j []))):=(HW.out.cell (p:=⟨b,off + j,none⟩) hb).trans (hcc j _ (by simp [List.getElem?_eq_getElem hjn,List.getD]))
   have hlb:=HLB.out _ hnm
   have hlk:=HLK.out _ hnm
   have htk:l.take (j + 1)=l.take j++[l.getD j []]:=by
    rw [List.take_succ_eq_append_getElem hjn]
    simp [List.getD,List.getElem?_eq_getElem hjn]
   generalize l.getD j []=n at *
   obtain ⟨vv,w5,F5,hcv,lie5,fr5,b5⟩:=conv_fresh n hlb hlk wr
   obtain ⟨A5,c5,rfl,hc5,-⟩:=lie5.form
   obtain ⟨F,hR⟩:=HX.out
   have HR5:=hide (hR.row.step b5)
   have HR:=hide hR
   have HL5:=hide (lies_one lie5)
   have HF5:=hide (hR.far fr5)
   have HFR:=hide fr5
   have HB5:=hide b5
   have HW5:=hide (HB2.out.trans ((HW.out.trans (b5.mono HW.out.size)).mono HB2.out.size))
   have HW6:=hide (HW.out.trans (b5.mono HW.out.size))
   have HTK:=hide htk
   have hlo:w2.heap.size≤wr.heap.size:=HW.out.size
   have hlo5:w2.heap.size≤w5.heap.size:=HW6.out.size
   have k1:(j:Int) < (N:Int):=by omega
   have k0:(0:Int)≤(j:Int):=by omega
   have k2:(j:Int).toNat=j:=by omega
   clear hR lie5 fr5 b5 htk hcc hnm hlb HX
   have hj9:j + 1≤274877906944:=by omega
   go_wp2_with (at_builtin; have hq1:=HR5.out; have hq2:=HL5.out; have hq3:=HF5.out; refine wpList_row1 rfl rfl hq1 hq2 hq3 rfl rfl rfl Tryz.underlying23 inf_bytes rfl (by decide) (by decide) hj9 hlo5 ?_; clear hq1 hq2 hq3; intro v3 w3 R3 B3 g3; have HR3:=hide (HR.out.snoc HB5.out HFR.out hlo R3 g3); have HB3:=hide (HW6.out.trans B3); clear R3 B3 g3)
   go_roundw
   case rel=>exact ⟨j + 1,by omega,by go_num,hide ⟨_,by rw [HTK.out,rawss_snoc]; exact HR3.out⟩,HB3⟩
   case measure=>simp [intOf]; omega
  ·obtain rfl:j=N:=by omega
   have e2:l.take j=l:=List.take_of_length_le (by rw [HNL.out]; omega)
   rw [e2] at HX
   clear e2
   go_wp2
   go_ret
   obtain ⟨F,hR⟩:=HX.out
   exact ⟨_,F,rfl,hR.base HB2.out.size,HB2.out.trans (HW.out.mono HB2.out.size)⟩
end Go.Proofs.YtgaadpkefncnmaaGreatDoor
/-
  reached, refsOk: the program.
-/
namespace Go.Proofs.YtgaadpkefncnmaaGreatDoor
open Go.RowKit
set_option linter.unusedVariables false
set_option linter.unusedSimpArgs false
set_option maxRecDepth 20000 in
set_option maxHeartbeats 1600000 in
theorem implReached (os:List DObj) (f:List Int→Option Value) (hoks:∀ o∈os,oks o.cells) (hbk:∀ o∈os,bulks o.cells≤1048576) (hlen:os.length≤24) (mr:Option Nat) (bo no co:Nat) (Av:Option Addr) (nv cv:Nat)
  (ns:List (List Int)) (hB:BytN ns) (hl:∀ n∈ns,n.length≤1048576) (hn:ns.length≤1048576) (v:Value) (w:World) (hF:ObjF w os f) (hm:MapV w bo no f co) (hv:RdN w v ns) :
  Calls Tryz.prog 74 #[.agg #[.map mr,.map (some bo),.slice Av nv cv],v] w fun e w'=>∃ B n c q,e=.returned (.map (some B))∧MapV w' B n (setF q) c∧n≤24∧(∀ x,q x=true↔Rch os ns x)∧w.heap.size≤B∧Below w.heap.size w w':=by
 obtain ⟨wk,hwk⟩:∃ wk,w.alloc (.cells #[.map mr,.map (some bo),.slice Av nv cv] 85)=wk:=⟨_,rfl⟩
 have bk:Below w.heap.size w wk:=by rw [← hwk]; exact (Below.refl _ _).alloc (Nat.le_refl _) _
 have bxk:Box wk w.heap.size 85 [.map mr,.map (some bo),.slice Av nv cv]:=by rw [← hwk]; exact Box.new w _ _
 obtain ⟨wm,hwm⟩:∃ wm,wk.alloc (.map #[] 0)=wm:=⟨_,rfl⟩
 have bm:Below wk.heap.size wk wm:=by rw [← hwm]; exact (Below.refl _ _).alloc (Nat.le_refl _) _
 have hmm:MapV wm wk.heap.size 0 (setF fun _=>false) 0:=by rw [← hwm]; exact MapV.made wk
 have hb:Below w.heap.size w wm:=bk.trans (bm.mono bk.size)
 have hbx:=bxk.step bm
 have s0:=hbx.cell (j:=0) rfl
 have s1:=hbx.cell (j:=1) rfl
 have s2:=hbx.cell (j:=2) rfl
 have hun:undisc os (fun _=>false)≤24:=Nat.le_trans (List.length_filter_le _ _) hlen
 have hc:=implReach w os f hoks hbk mr bo no co Av nv cv wk.heap.size hF hm bk.size (undisc os fun _=>false) (fun _=>false) 0 0 ns v wm hB hl hn hv hb hmm (Nat.le_refl _) (by omega)
 have HC:=hide hc
 have HB:=hide hb
 have HUN:=hide hun
 have HK:=hide bk.size
 have hmk:=@run_makeMap Tryz.prog
 clear hc hb hbx bxk bm bk hmm hF hm hv hoks hbk hB hl hn hun
 go_enter Tryz.func74,Tryz.ntmps74
 go_wp2_with fail
 refine HC.out.mono ?_
 rintro e w1 ⟨rfl,q,n,c,h1,h2,h3,h4⟩
 have HR:=hide (show ∃ n c,MapV w1 wk.heap.size n (setF q) c∧n≤24 from ⟨n,c,h1,by have:=HUN.out; omega⟩)
 have HQ:=hide (fun x=>h3.whole x)
 have HB1:=hide (HB.out.grown h4 HB.out.size (fun k hk=>by have:=HK.out; injection hk with hk; omega))
 clear h1 h2 h3 h4 s0 s1 s2
 go_wp2_with fail
 go_ret
 obtain ⟨n,c,h,h24⟩:=HR.out
 exact ⟨_,n,c,q,rfl,h,h24,HQ.out,HK.out,HB1.out⟩
/-- '[]byte(s)': new bytes. -/
theorem conv_back (n:List Int) (hB:Byt n) (hl:n.length≤1048576) (w:World):∃ v w',(convert 9 39 (.string (strOfNums n))).run Tryz.prog w=.ok v w'∧Rd w' v (bs n)∧Below w.heap.size w w':=by
 have h:=run_bytes_of_string w 9 39 5 (strOfNums n) Tryz.underlying9 Tryz.underlying39 Tryz.underlying5
 have hge:=grownCap_ge w (strOfNums n).size 0 5
 have hle:=grownCap_le_maxLen w (strOfNums n).size 0 5 (by rw [strOfNums_size]; unfold maxLen; omega)
 refine ⟨_,_,h,?_,((Below.refl _ _).drew).alloc (Nat.le_refl _) _⟩
 generalize grownCap w (strOfNums n).size 0 5=cap at *
 rw [strOfNums_size] at hge
 refine ⟨some ⟨w.heap.size,0,none⟩,cap,by rw [bs_length,strOfNums_size],by rw [bs_length]; exact hge,hle,fun _=>⟨w.heap.size,0,rfl,by simp,fun i u hu=>?_⟩⟩
 have hi:i < n.length:=by
  have:=(List.getElem?_eq_some_iff.1 hu).1
  rwa [bs_length] at this
 have hi2:i < (strOfNums n).data.size:=by have:=strOfNums_size n; rw [ByteArray.size] at this; omega
 rw [Nat.zero_add]
 refine (World.cell?_alloc_mark w.drew _ _ _ i).trans ?_
 rw [bytesRow_at _ _ _ hi2]
 have e1:(((strOfNums n)[i]'hi2).toNat:Int)=n.getD i 0:=str_get hB hi2
 have e2:u=.int .u8 n[i]:=by
  rw [bs,List.getElem?_map,List.getElem?_eq_getElem hi] at hu
  exact (Option.some.inj hu).symm
 rw [e2]
 have e3:n.getD i 0=n[i]:=by simp [List.getD,List.getElem?_eq_getElem hi]
 rw [← e3,← e1]
 rfl
theorem refsOk_no {os:List DObj} (hd:NmDiff os) {n:List Int} (hin:atO os n < os.length) (h:¬ ((∀ r∈(os[atO os n]).refs,atO os r < os.length)∧¬ Rch os (os[atO os n]).refs n)):¬ RefsOk os:=by
 intro hr
 have:=hr _ hin
 rw [atO_name hin] at this
 exact h this
set_option maxRecDepth 20000 in
set_option maxHeartbeats 6400000 in
theorem implRefsOk (os:List DObj) (f:List Int→Option Value) (hoks:∀ o∈os,oks o.cells) (hbk:∀ o∈os,bulks o.cells≤1048576) (hd:NmDiff os) (hlen:os.length≤24) (mr:Option Nat) (bo no co:Nat) (Av:Option Addr) (nv cv:Nat)
  (w:World) (hF:ObjF w os f) (hm:MapV w bo no f co) :
  Calls Tryz.prog 119 #[.agg #[.map mr,.map (some bo),.slice Av nv cv]] w fun e w'=>∃ R:Bool,e=.returned (.bool R)∧(R=true↔RefsOk os)∧Below w.heap.size w w':=by
 obtain ⟨wk,hwk⟩:∃ wk,w.alloc (.cells #[.map mr,.map (some bo),.slice Av nv cv] 85)=wk:=⟨_,rfl⟩
 have bk:Below w.heap.size w wk:=by rw [← hwk]; exact (Below.refl _ _).alloc (Nat.le_refl _) _
 have bxk:Box wk w.heap.size 85 [.map mr,.map (some bo),.slice Av nv cv]:=by rw [← hwk]; exact Box.new w _ _
 have k1_:=bxk.cell (j:=1) rfl
 have hmk:=hm.step bk
 have hbo:bo < w.heap.size:=hm.lt
 have HF:=hide hF
 have HM:=hide hm
 have HK:=hide bxk
 have HBK:=hide bk
 have HOK:=hide hoks
 have HBU:=hide hbk
 have HND:=hide hd
 have HLEN:=hide hlen
 clear hF hm bxk bk hoks hbk hd hlen
 go_enter Tryz.func119,Tryz.ntmps119
 go_wp2_with (at_range; refine wpList_rangeV _ rfl _ 83 rfl 49 Tryz.underlying83 bo no f co rfl hmk ?_; intro w1 hr1 hb1 hz1)
 go_frame
 have HBW1:=hide (HBK.out.trans (hb1.mono HBK.out.size))
 have HK1:=hide (HK.out.step hb1)
 have HKS:=hide (show w.heap.size < wk.heap.size from HK.out.lt)
 generalize hrr:wk.heap.size=r at *
 have HRR:=hide hrr
 have HR1:=hide hr1
 have HZ1:=hide hz1
 clear hr1 hb1 hz1 hrr hmk k1_
 go_loopw [8] (fun z wr=>∃ left cnt,Hid (RangeV wr bo r no f co left cnt)∧Hid (∀ n,Byt n→(h:atO os n < os.length)→left n=false→(∀ y∈(os[atO os n]).refs,atO os y < os.length)∧¬ Rch os (os[atO os n]).refs n)∧Hid (w1.grownBy wr (some r))) (fun _ wr=>wr.rangeLeft bo r)
 case atStart =>
  refine ⟨fun nm=>(f nm).isSome,co,HR1,hide (fun n hB h hl=>?_),hide (World.grownBy.refl _ _)⟩
  have hl2:(f n).isSome=false:=hl
  rw [HF.out.isSome n,decide_eq_true h] at hl2
  cases hl2
 case round =>
  obtain ⟨left,cnt,HRG,HLF,HG⟩:=hrel
  have hrg:=HRG.out
  have hwr:Below w.heap.size w wr:=HBW1.out.grown HG.out HBW1.out.size (fun k hk=>by have:=HKS.out; have:=HRR.out; injection hk with hk; omega)
  have hne:some w.heap.size≠some r:=by have:=HKS.out; have:=HRR.out; simp; omega
  have HNE:=hide hne
  have HWR:=hide hwr
  clear hne hwr
  go_wp2_with (at_next; refine wpList_nextV _ rfl _ rfl bo r no f co left cnt rfl hrg ?_ ?_)
  ·intro hdone
   have HD:=hide hdone
   clear hdone hrg
   go_wp2_with fail
   go_ret
   refine ⟨true,rfl,⟨fun _ i hi=>?_,fun _=>rfl⟩,HWR.out⟩
   have hnb:=((DObj.oks_iff _).1 (HOK.out _ (List.getElem_mem hi))).1
   have hat:=atO_self HND.out hi
   have hlt:atO os (os[i]).name < os.length:=by rw [hat]; exact hi
   have:=HLF.out (os[i]).name hnb hlt (HD.out _ hnb)
   simp only [hat] at this
   exact this
  ·intro nm v w2 cnt2 hBn hln hfn hlf hrg2 hlt hg2 hs2 hen
   have hsm:=HF.out.isSome nm
   rw [hfn] at hsm
   have hin:atO os nm < os.length:=of_decide_eq_true hsm.symm
   obtain ⟨us,hf1,hins⟩:=HF.out.some_ nm hin
   rw [hfn] at hf1
   obtain rfl:=Option.some.inj hf1
   have hoo:=HOK.out _ (List.getElem_mem hin)
   have hob:=HBU.out _ (List.getElem_mem hin)
   have hob2:=bulk_Obj (os[atO os nm])
   have hrB:=((DObj.oks_iff _).1 hoo).2.2.2.1
   have HNO:=hide (fun h=>refsOk_no HND.out hin h)
   have HLF2:=hide (fun (hgood:(∀ y∈(os[atO os nm]).refs,atO os y < os.length)∧¬ Rch os (os[atO os nm]).refs nm)=>show ∀ n,Byt n→(h:atO os n < os.length)→(left n && !decide (n=nm))=false→(∀ y∈(os[atO os n]).refs,atO os y < os.length)∧¬ Rch os (os[atO os n]).refs n from fun n hB h hl=>by
    rw [Bool.and_eq_false_iff] at hl
    rcases hl with hl | hl
    ·exact HLF.out n hB h hl
    ·have e:n=nm:=by simpa using hl
     subst e
     exact hgood)
   obtain ⟨rfs,hrfs⟩:∃ x,(os[atO os nm]).refs=x:=⟨_,rfl⟩
   obtain ⟨A0,c0,A3,c3,A4,c4,A5,c5,A6,c6,A7,c7,A8,c8,rfl,h0,-,-,-,h6,-,-⟩:=DObj.view hins
   have hrn:=h6.rdN
   have hrl:∀ r∈(os[atO os nm]).refs,r.length≤1048576:=fun r hr=>by have:=sumLen_mem2 hr; omega
   have hrl2:(os[atO os nm]).refs.length≤1048576:=by omega
   rw [hrfs] at hrn hrl hrl2 hrB HNO HLF2
   obtain ⟨N0,hN0⟩:∃ x,(os[atO os nm]).name.length=x:=⟨_,rfl⟩
   obtain ⟨K1,hK1⟩:∃ x,(os[atO os nm]).kind=x:=⟨_,rfl⟩
   obtain ⟨K2,hK2⟩:∃ x,(os[atO os nm]).tree.kind=x:=⟨_,rfl⟩
   obtain ⟨N3,hN3⟩:∃ x,(os[atO os nm]).tree.data.length=x:=⟨_,rfl⟩
   obtain ⟨N4,hN4⟩:∃ x,(os[atO os nm]).tree.names.length=x:=⟨_,rfl⟩
   obtain ⟨N5,hN5⟩:∃ x,(os[atO os nm]).tree.kids.length=x:=⟨_,rfl⟩
   obtain ⟨N7,hN7⟩:∃ x,(os[atO os nm]).frm.length=x:=⟨_,rfl⟩
   obtain ⟨N8,hN8⟩:∃ x,(os[atO os nm]).out.length=x:=⟨_,rfl⟩
   simp only [hN0,hK1,hK2,hN3,hN4,hN5,hN7,hN8,hrfs] at hen ⊢
   have hb2:Below w.heap.size w w2:=HWR.out.grown hg2 HWR.out.size (fun k hk=>by have:=HKS.out; have:=HRR.out; injection hk with hk; omega)
   have hk2:=(HK1.out.grown HG.out HNE.out).grown hg2 HNE.out
   obtain ⟨wo,hwo⟩:∃ wo,w2.alloc (.cells #[.slice A0 N0 c0,.int .i64 K1,.int .i64 K2,.slice A3 N3 c3,.slice A4 N4 c4,.slice A5 N5 c5,.slice A6 rfs.length c6,.slice A7 N7 c7,.slice A8 N8 c8] 49)=wo:=⟨_,rfl⟩
   have bo_:Below w2.heap.size w2 wo:=by rw [← hwo]; exact (Below.refl _ _).alloc (Nat.le_refl _) _
   have bxo:Box wo w2.heap.size 49 [.slice A0 N0 c0,.int .i64 K1,.int .i64 K2,.slice A3 N3 c3,.slice A4 N4 c4,.slice A5 N5 c5,.slice A6 rfs.length c6,.slice A7 N7 c7,.slice A8 N8 c8]:=by rw [← hwo]; exact Box.new w2 _ _
   have hbo_:Below w.heap.size w wo:=hb2.trans (bo_.mono hb2.size)
   have hko:=hk2.step bo_
   have k1_:=hko.cell (j:=1) rfl
   have o6:=bxo.cell (j:=6) rfl
   have HX:=hide (fun W (hb:Below wo.heap.size wo W)=>(⟨(hko.step hb).cell (j:=0) rfl,(hko.step hb).cell (j:=1) rfl,(hko.step hb).cell (j:=2) rfl,(bxo.step hb).cell (j:=6) rfl⟩:W.cell? ⟨w.heap.size,0,none⟩=some (.map mr)∧W.cell? ⟨w.heap.size,1,none⟩=some (.map (some bo))∧W.cell? ⟨w.heap.size,2,none⟩=some (.slice Av nv cv)∧W.cell? ⟨w2.heap.size,6,none⟩=some (.slice A6 rfs.length c6)))
   have hc1:=hasAllO (.map (some bo)) f rfs hrB (.slice A6 rfs.length c6) wo (HM.out.step hbo_).o (hrn.below hbo_) hrl hrl2 HF.out.shape
   have hall:(rfs.all fun n=>(f n).isSome)=rfs.all fun n=>decide (atO os n < os.length):=by
    congr 1
    funext n
    exact HF.out.isSome n
   rw [hall] at hc1
   have HC2:=hide (fun W (hb:Below w.heap.size w W)=>implReached os f HOK.out HBU.out HLEN.out mr bo no co Av nv cv rfs hrB hrl hrl2 (.slice A6 rfs.length c6) W (HF.out.step hb) (HM.out.step hb) (hrn.below hb))
   have HBN:=hide hBn
   have HLN:=hide hln
   have HBO:=hide hbo_
   have HR2:=hide (fun W (hb:Below w2.heap.size w2 W)=>hrg2.step hb)
   have HBO2:=hide bo_
   have HG2:=hide (HG.out.andThen hg2 (fun _ h=>Or.inr h))
   have HLT:=hide (show cnt2 < wr.rangeLeft bo r by rw [hrg.left_eq]; exact hlt)
   clear hsm hf1 hins hoo hob hob2 hrB h0 h6 hrn hrl hrl2 hrfs hN0 hK1 hK2 hN3 hN4 hN5 hN7 hN8 hk2 bxo hko bo_ hbo_ hb2 hrg2 hg2 hs2 hfn hlf hall hlt hrg HLF HRG
   cases hX:rfs.all fun n=>decide (atO os n < os.length) with
   | false =>
     rw [hX] at hc1
     have HC1:=hide hc1
     have HNR:=hide (HNO.out (fun h=>by
      rw [Bool.eq_false_iff] at hX
      exact hX (List.all_eq_true.2 fun x hx=>decide_eq_true (h.1 x hx))))
     clear hc1 hX
     go_wp2_with fail
     refine HC1.out.mono ?_
     rintro e w3 ⟨rfl,b3⟩
     have HB3:=hide (HBO.out.trans (b3.mono HBO.out.size))
     clear b3 k1_ o6
     go_wp2_with fail
     go_ret
     exact ⟨false,rfl,⟨(fun h=>by cases h),fun h=>absurd h HNR.out⟩,HB3.out⟩
   | true =>
     rw [hX] at hc1
     have HC1:=hide hc1
     have HGD:=hide (fun x hx=>of_decide_eq_true (List.all_eq_true.1 hX x hx))
     clear hc1 hX
     go_wp2_with fail
     refine HC1.out.mono ?_
     rintro e w3 ⟨rfl,b3⟩
     have HB3:=hide (HBO.out.trans (b3.mono HBO.out.size))
     have HZ3:=hide (HBO2.out.trans (b3.mono HBO2.out.size))
     obtain ⟨s0,s1,s2,s6⟩:=HX.out w3 b3
     have HC:=hide (HC2.out w3 HB3.out)
     clear b3 k1_ o6
     go_wp2_with fail
     refine HC.out.mono ?_
     rintro e w4 ⟨B,nB,cB,q,rfl,hmq,-,hq,hBge,b4⟩
     have HB4:=hide (HB3.out.trans (b4.mono HB3.out.size))
     have HZ4:=hide (HZ3.out.trans (b4.mono HZ3.out.size))
     obtain ⟨v5,w5,hcv5,rd5,b5⟩:=conv_back nm HBN.out HLN.out w4
     have HB5:=hide (HB4.out.trans (b5.mono HB4.out.size))
     have HZ5:=hide (HZ4.out.trans (b5.mono HZ4.out.size))
     have hhas:=hasB (.map (some B)) (setF q) nm HBN.out v5 w5 (hmq.step b5).o rd5 (by have:=HLN.out; omega)
     rw [setF_isSome] at hhas
     have HQ:=hide (hq nm)
     cases hqn:q nm with
     | true =>
       rw [hqn] at hhas HQ
       have HH:=hide hhas
       have HNR:=hide (HNO.out (fun h=>h.2 (HQ.out.1 rfl)))
       clear hhas hqn hmq hq b4 b5 rd5 s0 s1 s2 s6
       go_wp2_with fail
       refine HH.out.mono ?_
       rintro e w6 ⟨rfl,rfl⟩
       go_wp2_with fail
       go_ret
       exact ⟨false,rfl,⟨(fun h=>by cases h),fun h=>absurd h HNR.out⟩,HB5.out⟩
     | false =>
       rw [hqn] at hhas HQ
       have HH:=hide hhas
       have HL:=hide (HLF2.out ⟨HGD.out,fun h=>by have:=HQ.out.2 h; cases this⟩)
       have HRG5:=hide (HR2.out w5 HZ5.out)
       have HG5:=hide (HG2.out.andThen (show w2.grownBy w5 (some r) from ⟨HZ5.out.os,HZ5.out.tape,HZ5.out.output,HZ5.out.size,fun k hk _=>HZ5.out.block k hk⟩) (fun _ h=>Or.inr h))
       clear hhas hqn hmq hq b4 b5 rd5 s0 s1 s2 s6
       go_wp2_with fail
       refine HH.out.mono ?_
       rintro e w6 ⟨rfl,rfl⟩
       go_wp2_with fail
       go_roundw
       case rel=>exact ⟨_,cnt2,HRG5,HL,HG5⟩
       case measure =>
        have:=HLT.out
        rw [HRG5.out.left_eq]
        exact this
end Go.Proofs.YtgaadpkefncnmaaGreatDoor
