/-
  Parts of the proof: OwnF.
-/
import Derived.Test.YtgaadpkefncnmaaGreatDoorMp0
import Derived.Test.YtgaadpkefncnmaaGreatDoorMp1
/-
  A slice of texts of the call's own, as a datum; texts that a call collects.
-/
namespace Go.Proofs.YtgaadpkefncnmaaGreatDoor
open Go.RowKit
set_option linter.unusedVariables false
theorem own_block {w:World} {lo n:Nat} {e:TypeId} {v:Value} {xs:List Value} (h:w.ownsRow lo e 1 v n xs) {g:Nat} (hg:g∈blk v):v.ownBlock=some g∧lo≤g∧∃ cur,w.heap[g]? = some (.cells cur e (0,0)):=by
 rcases h.2 with ⟨rfl,_⟩ | ⟨b,cap,cur,rfl,hb,hc,_⟩
 ·cases hg
 ·cases n with
  | zero=>rw [blk_none] at hg; cases hg
  | succ n =>
    have:=List.mem_singleton.1 hg
    subst this
    exact ⟨rfl,hb,cur,hc⟩
theorem each_lies {w:World} {lo:Nat} : ∀ (us:List Value) (ns:List (List Int)),us.length=ns.length→(∀ i u,us[i]? = some u→w.ownsRow lo 5 1 u (ns.getD i []).length (bs (ns.getD i [])))→SepB us →
  ∃ F,Lies w (cells (fun n=>[raw n]) ns) us F∧F.Nodup∧(∀ g∈F,∃ (i:Nat) (u:Value),us[i]? = some u∧u.ownBlock=some g∧lo≤g∧∃ cur,w.heap[g]? = some (.cells cur 5 (0,0)))
 | [],[],_,_,_=>⟨[],by rw [cells]; exact lies_nil w,List.nodup_nil,fun g hg=>by cases hg⟩
 | [],n :: ns,h,_,_=>by simp at h
 | u :: us,[],h,_,_=>by simp at h
 | u :: us,n :: ns,h,he,hs=>by
   have h0:=he 0 u rfl
   have h0' : w.ownsRow lo 5 1 u n.length (bs n):=by simpa using h0
   have hr:Rd w u (bs n):=(Own.of h0' (bs_length n).symm).rd
   obtain ⟨F,f1,f2,f3⟩:=each_lies us ns (by simpa using h) (fun i x hx=>by have:=he (i + 1) x (by simpa using hx); simpa using this)
    (fun i j x x' g hij hx hx' hg=>hs (i + 1) (j + 1) x x' g (by omega) (by simpa using hx) (by simpa using hx') hg)
   refine ⟨blk u++F,?_,?_,?_⟩
   ·rw [cells,List.singleton_append]; exact lies_cons hr.lie f1
   ·refine List.nodup_append.2 ⟨?_,f2,?_⟩
    ·obtain ⟨A,c,rfl,_⟩:=own_slice h0'
     cases n.length with
     | zero=>rw [blk_none]; exact List.nodup_nil
     | succ m=>cases A <;> simp [blk]
    ·intro a ha b hb e
     subst e
     obtain ⟨i,x,hx,hxb,_⟩:=f3 a hb
     exact hs 0 (i + 1) u x a (by omega) rfl (by simpa using hx) (own_block h0' ha).1 hxb
   ·intro g hg
    rcases List.mem_append.1 hg with hg | hg
    ·obtain ⟨a,b,c⟩:=own_block h0' hg
     exact ⟨0,u,rfl,a,b,c⟩
    ·obtain ⟨i,x,hx,r⟩:=f3 g hg
     exact ⟨i + 1,x,by simpa using hx,r⟩
theorem OwnS.fresh {lo:Nat} {w:World} {v:Value} {ns:List (List Int)} (h:OwnS lo w v ns):∃ F,Lie w (names ns) v F∧Fresh lo w F:=by
 obtain ⟨us,hl,hr,he,hs⟩:=h
 obtain ⟨F,f1,f2,f3⟩:=each_lies us ns hl he hs
 have hrd:Rd w v us:=own_rdV hr rfl
 refine ⟨blk v++F,?_,?_,?_,?_⟩
 ·rw [names,Lie]
  exact ⟨by decide,us,F,hrd.rdc hl.symm,f1,rfl⟩
 ·refine List.nodup_append.2 ⟨?_,f2,?_⟩
  ·obtain ⟨A,c,rfl,_⟩:=own_slice hr
   cases us.length with
   | zero=>rw [blk_none]; exact List.nodup_nil
   | succ m=>cases A <;> simp [blk]
  ·intro a ha b hb e
   subst e
   obtain ⟨_,_,cur,h1⟩:=own_block hr ha
   obtain ⟨i,x,hx,hxb,_,cur2,h2⟩:=f3 a hb
   rw [h1] at h2
   injection h2 with h2
   injection h2 with _ h2 _
   exact absurd h2 (by decide)
 ·intro g hg
  rcases List.mem_append.1 hg with hg | hg
  ·exact (own_block hr hg).2.1
  ·obtain ⟨i,x,hx,hxb,hlo,_⟩:=f3 g hg
   exact hlo
 ·intro g hg
  rcases List.mem_append.1 hg with hg | hg
  ·obtain ⟨_,_,cur,h1⟩:=own_block hr hg
   exact LiveAt.of h1
  ·obtain ⟨i,x,hx,hxb,hlo,cur,h1⟩:=f3 g hg
   exact LiveAt.of h1
end Go.Proofs.YtgaadpkefncnmaaGreatDoor
