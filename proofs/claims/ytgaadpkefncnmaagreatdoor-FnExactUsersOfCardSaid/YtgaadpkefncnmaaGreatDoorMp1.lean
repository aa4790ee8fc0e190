/-
  Parts of the proof: DTyp, Info, NLie, RowF, StrEq, Text, TreeTo, DView, LiftD, Plc, SetI, TextX, TreeTo2, BulkC, DElem, DLift, DOk, PlcI, TLie, TreeTo3, DrvP, Holds, RealCmp4, TreeEq.
-/
import Derived.Test.YtgaadpkefncnmaaGreatDoorMp0
import Derived.Test.YtgaadpkefncnmaaGreatDoorRows
import Derived.Laws.IdiomStrings
import Derived.Deep.Slices
import Derived.Deep.Fields
import Derived.ChangeSame
import Derived.Lib.SmallJoins
import Derived.Maps.OwnRows
import Derived.Maps.Views
import Derived.Maps.Keyed
import Derived.Laws.BytesArg
import Derived.IntWalk
import Derived.Deep.QuietTactic
import Derived.BigQuiet
import Derived.Deep.Cut
import Derived.Deep.DeepCutAuto
import Derived.Deep.CutBlock
import Derived.Deep.RegionWith
import Derived.Deep.MidRow
import Derived.StillTailTactics
/-
  The data of the laws.
-/
namespace Go.Proofs.YtgaadpkefncnmaaGreatDoor
open Go.RowKit
set_option linter.unusedVariables false
theorem T.cells_len (t:T):t.cells.length=4:=by rw [t.cells_eq]; rfl
theorem T.cells_top (x:T):x.cells=(.num .i64 x.kind :: (raw x.data :: (Go.Proofs.YtgaadpkefncnmaaGreatDoor.names x.names :: (seqOf 4 T.cells x.kids :: [])))):=x.cells_eq
structure DReal where
 drv:List Int
 out:List Int
 path:List Int
def DReal.cells (x:DReal):List Cel:=(raw x.drv :: (raw x.out :: (raw x.path :: [])))
theorem DReal.cells_top (x:DReal):x.cells=(raw x.drv :: (raw x.out :: (raw x.path :: []))):=rfl
theorem DReal.cells_eq (x:DReal):x.cells = [raw x.drv,raw x.out,raw x.path]:=by rw [DReal.cells] <;> rfl
theorem DReal.cells_len (x:DReal):x.cells.length=3:=by rw [x.cells_eq]; rfl
structure DOp where
 code:Int
 out:Int
 name:List Int
 text:List Int
 arg:Int
def DOp.cells (x:DOp):List Cel:=(.num .i64 x.code :: (.num .i64 x.out :: (raw x.name :: (raw x.text :: (.num .i64 x.arg :: [])))))
theorem DOp.cells_top (x:DOp):x.cells=(.num .i64 x.code :: (.num .i64 x.out :: (raw x.name :: (raw x.text :: (.num .i64 x.arg :: []))))):=rfl
theorem DOp.cells_eq (x:DOp):x.cells = [.num .i64 x.code,.num .i64 x.out,raw x.name,raw x.text,.num .i64 x.arg]:=by rw [DOp.cells] <;> rfl
theorem DOp.cells_len (x:DOp):x.cells.length=5:=by rw [x.cells_eq]; rfl
structure DIn where
 drv:List Int
 out:List Int
def DIn.cells (x:DIn):List Cel:=(raw x.drv :: (raw x.out :: []))
theorem DIn.cells_top (x:DIn):x.cells=(raw x.drv :: (raw x.out :: [])):=rfl
theorem DIn.cells_eq (x:DIn):x.cells = [raw x.drv,raw x.out]:=by rw [DIn.cells] <;> rfl
theorem DIn.cells_len (x:DIn):x.cells.length=2:=by rw [x.cells_eq]; rfl
structure DObj where
 name:List Int
 kind:Int
 tree:T
 refs:List (List Int)
 frm:List Int
 out:List Int
def DObj.cells (x:DObj):List Cel:=(raw x.name :: (.num .i64 x.kind :: (x.tree.cells++(Go.Proofs.YtgaadpkefncnmaaGreatDoor.names x.refs :: (raw x.frm :: (raw x.out :: []))))))
theorem DObj.cells_top (x:DObj):x.cells=(raw x.name :: (.num .i64 x.kind :: (x.tree.cells++(Go.Proofs.YtgaadpkefncnmaaGreatDoor.names x.refs :: (raw x.frm :: (raw x.out :: [])))))):=rfl
theorem DObj.cells_eq (x:DObj):x.cells = [raw x.name,.num .i64 x.kind,.num .i64 x.tree.kind,raw x.tree.data,Go.Proofs.YtgaadpkefncnmaaGreatDoor.names x.tree.names,seqOf 4 T.cells x.tree.kids,Go.Proofs.YtgaadpkefncnmaaGreatDoor.names x.refs,raw x.frm,raw x.out]:=by rw [DObj.cells,T.cells_eq] <;> rfl
theorem DObj.cells_len (x:DObj):x.cells.length=9:=by rw [x.cells_eq]; rfl
structure DDrv where
 srcs:List (List Int)
 ins:List DIn
 outs:List (List Int)
 ops:List DOp
def DDrv.cells (x:DDrv):List Cel:=(Go.Proofs.YtgaadpkefncnmaaGreatDoor.names x.srcs :: (seqOf 2 DIn.cells x.ins :: (Go.Proofs.YtgaadpkefncnmaaGreatDoor.names x.outs :: (seqOf 5 DOp.cells x.ops :: []))))
theorem DDrv.cells_top (x:DDrv):x.cells=(Go.Proofs.YtgaadpkefncnmaaGreatDoor.names x.srcs :: (seqOf 2 DIn.cells x.ins :: (Go.Proofs.YtgaadpkefncnmaaGreatDoor.names x.outs :: (seqOf 5 DOp.cells x.ops :: [])))):=rfl
theorem DDrv.cells_eq (x:DDrv):x.cells = [Go.Proofs.YtgaadpkefncnmaaGreatDoor.names x.srcs,seqOf 2 DIn.cells x.ins,Go.Proofs.YtgaadpkefncnmaaGreatDoor.names x.outs,seqOf 5 DOp.cells x.ops]:=by rw [DDrv.cells] <;> rfl
theorem DDrv.cells_len (x:DDrv):x.cells.length=4:=by rw [x.cells_eq]; rfl
structure DStore where
 objs:List DObj
 roots:List (List Int)
 reals:List DReal
def DStore.cells (x:DStore):List Cel:=(seqOf 9 DObj.cells x.objs :: (Go.Proofs.YtgaadpkefncnmaaGreatDoor.names x.roots :: (seqOf 3 DReal.cells x.reals :: [])))
theorem DStore.cells_top (x:DStore):x.cells=(seqOf 9 DObj.cells x.objs :: (Go.Proofs.YtgaadpkefncnmaaGreatDoor.names x.roots :: (seqOf 3 DReal.cells x.reals :: []))):=rfl
theorem DStore.cells_eq (x:DStore):x.cells = [seqOf 9 DObj.cells x.objs,Go.Proofs.YtgaadpkefncnmaaGreatDoor.names x.roots,seqOf 3 DReal.cells x.reals]:=by rw [DStore.cells] <;> rfl
theorem DStore.cells_len (x:DStore):x.cells.length=3:=by rw [x.cells_eq]; rfl
structure DJob where
 d:DDrv
 name:List Int
 pc:Int
 args:List (List Int)
 outs:List T
def DJob.cells (x:DJob):List Cel:=(x.d.cells++(raw x.name :: (.num .i64 x.pc :: (Go.Proofs.YtgaadpkefncnmaaGreatDoor.names x.args :: (seqOf 4 T.cells x.outs :: [])))))
theorem DJob.cells_top (x:DJob):x.cells=(x.d.cells++(raw x.name :: (.num .i64 x.pc :: (Go.Proofs.YtgaadpkefncnmaaGreatDoor.names x.args :: (seqOf 4 T.cells x.outs :: []))))):=rfl
theorem DJob.cells_eq (x:DJob):x.cells = [Go.Proofs.YtgaadpkefncnmaaGreatDoor.names x.d.srcs,seqOf 2 DIn.cells x.d.ins,Go.Proofs.YtgaadpkefncnmaaGreatDoor.names x.d.outs,seqOf 5 DOp.cells x.d.ops,raw x.name,.num .i64 x.pc,Go.Proofs.YtgaadpkefncnmaaGreatDoor.names x.args,seqOf 4 T.cells x.outs]:=by rw [DJob.cells,DDrv.cells_eq] <;> rfl
theorem DJob.cells_len (x:DJob):x.cells.length=8:=by rw [x.cells_eq]; rfl
structure DGoal where
 drv:List Int
 state:Int
 err:Int
 begun:Bool
 job:DJob
 need:List (List Int)
def DGoal.cells (x:DGoal):List Cel:=(raw x.drv :: (.num .i64 x.state :: (.num .i64 x.err :: (.flag x.begun :: (x.job.cells++(Go.Proofs.YtgaadpkefncnmaaGreatDoor.names x.need :: []))))))
theorem DGoal.cells_top (x:DGoal):x.cells=(raw x.drv :: (.num .i64 x.state :: (.num .i64 x.err :: (.flag x.begun :: (x.job.cells++(Go.Proofs.YtgaadpkefncnmaaGreatDoor.names x.need :: [])))))):=rfl
theorem DGoal.cells_eq (x:DGoal):x.cells = [raw x.drv,.num .i64 x.state,.num .i64 x.err,.flag x.begun,Go.Proofs.YtgaadpkefncnmaaGreatDoor.names x.job.d.srcs,seqOf 2 DIn.cells x.job.d.ins,Go.Proofs.YtgaadpkefncnmaaGreatDoor.names x.job.d.outs,seqOf 5 DOp.cells x.job.d.ops,raw x.job.name,.num .i64 x.job.pc,Go.Proofs.YtgaadpkefncnmaaGreatDoor.names x.job.args,seqOf 4 T.cells x.job.outs,Go.Proofs.YtgaadpkefncnmaaGreatDoor.names x.need]:=by rw [DGoal.cells,DJob.cells_eq] <;> rfl
theorem DGoal.cells_len (x:DGoal):x.cells.length=13:=by rw [x.cells_eq]; rfl
structure DEngine where
 store:DStore
 goals:List DGoal
def DEngine.cells (x:DEngine):List Cel:=(x.store.cells++(seqOf 13 DGoal.cells x.goals :: []))
theorem DEngine.cells_top (x:DEngine):x.cells=(x.store.cells++(seqOf 13 DGoal.cells x.goals :: [])):=rfl
theorem DEngine.cells_eq (x:DEngine):x.cells = [seqOf 9 DObj.cells x.store.objs,Go.Proofs.YtgaadpkefncnmaaGreatDoor.names x.store.roots,seqOf 3 DReal.cells x.store.reals,seqOf 13 DGoal.cells x.goals]:=by rw [DEngine.cells,DStore.cells_eq] <;> rfl
theorem DEngine.cells_len (x:DEngine):x.cells.length=4:=by rw [x.cells_eq]; rfl
structure DReg where
 kind:Int
 obj:DObj
 real:DReal
 name:List Int
def DReg.cells (x:DReg):List Cel:=(.num .i64 x.kind :: (x.obj.cells++(x.real.cells++(raw x.name :: []))))
theorem DReg.cells_top (x:DReg):x.cells=(.num .i64 x.kind :: (x.obj.cells++(x.real.cells++(raw x.name :: [])))):=rfl
theorem DReg.cells_eq (x:DReg):x.cells = [.num .i64 x.kind,raw x.obj.name,.num .i64 x.obj.kind,.num .i64 x.obj.tree.kind,raw x.obj.tree.data,Go.Proofs.YtgaadpkefncnmaaGreatDoor.names x.obj.tree.names,seqOf 4 T.cells x.obj.tree.kids,Go.Proofs.YtgaadpkefncnmaaGreatDoor.names x.obj.refs,raw x.obj.frm,raw x.obj.out,raw x.real.drv,raw x.real.out,raw x.real.path,raw x.name]:=by rw [DReg.cells,DObj.cells_eq,DReal.cells_eq] <;> rfl
theorem DReg.cells_len (x:DReg):x.cells.length=14:=by rw [x.cells_eq]; rfl
structure DJournal where
 base:DStore
 regs:List DReg
 safe:Int
def DJournal.cells (x:DJournal):List Cel:=(x.base.cells++(seqOf 14 DReg.cells x.regs :: (.num .i64 x.safe :: [])))
theorem DJournal.cells_top (x:DJournal):x.cells=(x.base.cells++(seqOf 14 DReg.cells x.regs :: (.num .i64 x.safe :: []))):=rfl
theorem DJournal.cells_eq (x:DJournal):x.cells = [seqOf 9 DObj.cells x.base.objs,Go.Proofs.YtgaadpkefncnmaaGreatDoor.names x.base.roots,seqOf 3 DReal.cells x.base.reals,seqOf 14 DReg.cells x.regs,.num .i64 x.safe]:=by rw [DJournal.cells,DStore.cells_eq] <;> rfl
theorem DJournal.cells_len (x:DJournal):x.cells.length=5:=by rw [x.cells_eq]; rfl
structure DCmd where
 kind:Int
 text:List Int
 tree:T
 name:List Int
 out:List Int
 picks:List Int
 keep:Int
def DCmd.cells (x:DCmd):List Cel:=(.num .i64 x.kind :: (raw x.text :: (x.tree.cells++(raw x.name :: (raw x.out :: (ints x.picks :: (.num .i64 x.keep :: [])))))))
theorem DCmd.cells_top (x:DCmd):x.cells=(.num .i64 x.kind :: (raw x.text :: (x.tree.cells++(raw x.name :: (raw x.out :: (ints x.picks :: (.num .i64 x.keep :: []))))))):=rfl
theorem DCmd.cells_eq (x:DCmd):x.cells = [.num .i64 x.kind,raw x.text,.num .i64 x.tree.kind,raw x.tree.data,Go.Proofs.YtgaadpkefncnmaaGreatDoor.names x.tree.names,seqOf 4 T.cells x.tree.kids,raw x.name,raw x.out,ints x.picks,.num .i64 x.keep]:=by rw [DCmd.cells,T.cells_eq] <;> rfl
theorem DCmd.cells_len (x:DCmd):x.cells.length=10:=by rw [x.cells_eq]; rfl
structure DTold where
 code:Int
 name:List Int
def DTold.cells (x:DTold):List Cel:=(.num .i64 x.code :: (raw x.name :: []))
theorem DTold.cells_top (x:DTold):x.cells=(.num .i64 x.code :: (raw x.name :: [])):=rfl
theorem DTold.cells_eq (x:DTold):x.cells = [.num .i64 x.code,raw x.name]:=by rw [DTold.cells] <;> rfl
theorem DTold.cells_len (x:DTold):x.cells.length=2:=by rw [x.cells_eq]; rfl
end Go.Proofs.YtgaadpkefncnmaaGreatDoor
/-
  The elements' types of the rows that are made by append.
-/
namespace Go.Proofs.YtgaadpkefncnmaaGreatDoor
open Go.RowKit
set_option linter.unusedVariables false
abbrev zs:Value:=.slice none 0 0
theorem inf_u8:(Tryz.prog.info? 5).map (fun i=>(i.zero,i.size,i.bytes))=some (some (.int .u8 0),1,1):=by kernel_rfl
theorem inf_bool:(Tryz.prog.info? 4).map (fun i=>(i.zero,i.size,i.bytes))=some (some (.bool false),1,1):=by kernel_rfl
theorem inf_bytes:(Tryz.prog.info? 39).map (fun i=>(i.zero,i.size,i.bytes))=some (some zs,1,24):=by kernel_rfl
end Go.Proofs.YtgaadpkefncnmaaGreatDoor
/-
  Names and texts as cells, read as before.
-/
namespace Go.Proofs.YtgaadpkefncnmaaGreatDoor
open Go.RowKit
set_option linter.unusedVariables false
theorem In1.rd {w:World} {v:Value} {l:List Int} (h:In1 w (raw l) v):Rd w v (bs l):=h.elim fun F h=>h.rd.1
theorem Rd.in1 {w:World} {v:Value} {l:List Int} (h:Rd w v (bs l)):In1 w (raw l) v:=⟨_,h.lie⟩
theorem Lies.raws {w:World} : ∀ {ns:List (List Int)} {us:List Value} {F:List Nat},Lies w (cells (fun n=>[raw n]) ns) us F→us.length=ns.length∧∀ i u,us[i]? = some u→Rd w u (bs (ns.getD i []))
 | [],us,F,h=>by
   rw [cells,Lies] at h
   rw [h.1]
   exact ⟨rfl,fun i u hu=>by simp at hu⟩
 | n :: ns,us,F,h=>by
   rw [cells,List.singleton_append,Lies] at h
   obtain ⟨u,r,F1,F2,rfl,rfl,h1,h2⟩:=h
   have ih:=h2.raws
   refine ⟨by simp [ih.1],fun i x hx=>?_⟩
   cases i with
   | zero =>
     obtain rfl:u=x:=by simpa using hx
     exact h1.rd.1
   | succ i=>simpa using ih.2 i x (by simpa using hx)
theorem Lie.rdN {w:World} {v:Value} {ns:List (List Int)} {F:List Nat} (h:Lie w (names ns) v F):RdN w v ns:=by
 rw [names,Lie] at h
 obtain ⟨_,us,F2,h1,h2,rfl⟩:=h
 exact ⟨us,h1.rd,h2.raws.1,h2.raws.2⟩
theorem In1.rdN {w:World} {v:Value} {ns:List (List Int)} (h:In1 w (names ns) v):RdN w v ns:=h.elim fun F h=>h.rdN
theorem raw_bulkT (l:List Int):(raw l).bulk=l.length:=by
 rw [raw,Cel.bulk]
 have:bulks (l.map (Cel.num .u8))=0:=by
  induction l with
  | nil=>rfl
  | cons x l ih=>rw [List.map_cons,bulks,ih]; rfl
 omega
theorem names_bulk (ns:List (List Int)):(names ns).bulk=ns.length + sumLen ns:=by
 rw [names,Cel.bulk]
 have:bulks (cells (fun n=>[raw n]) ns)=sumLen ns:=by
  induction ns with
  | nil=>rfl
  | cons n r ih=>rw [cells,List.singleton_append,bulks,ih,raw_bulkT,sumLen]
 omega
end Go.Proofs.YtgaadpkefncnmaaGreatDoor
/-
  Rows that a call makes by append, of elements that are new, too: what they are at the end. A text that is made from a string.
-/
namespace Go.Proofs.YtgaadpkefncnmaaGreatDoor
open Go.RowKit
set_option linter.unusedVariables false
/-- A row of the call's own; its elements' blocks are new, too. -/
structure RowF (lo:Nat) (w:World) (e:TypeId) (sz n:Nat) (cs:List Cel) (v:Value) (F:List Nat):Prop where
 row:Row lo w e sz n cs v F
 fresh:Fresh lo w F
theorem RowF.nil (lo:Nat) (w:World) (e:TypeId) (sz:Nat) (h:sz≤64):RowF lo w e sz 0 [] (.slice none 0 0) []:=⟨Row.nil lo w e sz h,Fresh.nil lo w⟩
theorem RowF.step {lo:Nat} {w w' : World} {e:TypeId} {sz n:Nat} {cs:List Cel} {v:Value} {F:List Nat} (h:RowF lo w e sz n cs v F) (hb:Below w.heap.size w w'):RowF lo w' e sz n cs v F:=⟨h.row.step hb,h.fresh.step hb⟩
theorem RowF.base {lo lo' : Nat} {w:World} {e:TypeId} {sz n:Nat} {cs:List Cel} {v:Value} {F:List Nat} (h:RowF lo w e sz n cs v F) (hl:lo'≤lo):RowF lo' w e sz n cs v F:=⟨h.row.base hl,h.fresh.base hl⟩
theorem Row.blk_live {lo:Nat} {w:World} {e:TypeId} {sz n:Nat} {cs:List Cel} {v:Value} {F:List Nat} (h:Row lo w e sz n cs v F):∀ g∈blk v,v.ownBlock=some g∧lo≤g∧LiveAt w g:=by
 obtain ⟨h0,us,h1,h2,h3⟩:=h
 intro g hg
 rcases h1.2 with ⟨rfl,rfl⟩ | ⟨b,cap,cur,rfl,hbg,hc,_⟩
 ·cases hg
 ·cases n with
  | zero=>rw [blk_none] at hg; cases hg
  | succ n =>
    have:=List.mem_singleton.1 hg
    subst this
    exact ⟨rfl,hbg,LiveAt.of hc⟩
/-- The whole datum. -/
theorem RowF.done {lo:Nat} {w:World} {e:TypeId} {sz n:Nat} {cs:List Cel} {v:Value} {F:List Nat} (h:RowF lo w e sz n cs v F):Lie w (.seq sz n cs) v (blk v++F)∧Fresh lo w (blk v++F):=by
 refine ⟨h.row.lie,List.nodup_append.2 ⟨?_,h.fresh.nodup,fun a ha b hb e=>?_⟩,fun g hg=>?_,fun g hg=>?_⟩
 ·obtain ⟨A,c,rfl,_,_⟩:=h.row.form
  cases n with
  | zero=>rw [blk_none]; exact List.nodup_nil
  | succ n=>cases A <;> simp [blk]
 ·subst e
  obtain ⟨h0,us,h1,h2,h3⟩:=h.row
  exact h3 a hb (h.row.blk_live a ha).1
 ·rcases List.mem_append.1 hg with hg | hg
  ·exact (h.row.blk_live g hg).2.1
  ·exact h.fresh.low g hg
 ·rcases List.mem_append.1 hg with hg | hg
  ·exact (h.row.blk_live g hg).2.2
  ·exact h.fresh.live g hg
theorem RowF.far {lo:Nat} {W W1:World} {e:TypeId} {sz n:Nat} {cs:List Cel} {v:Value} {F G:List Nat} (h:RowF lo W e sz n cs v F) (hG:Fresh W.heap.size W1 G):∀ g∈G,v.ownBlock≠some g:=h.row.far fun g hg=>.inr (hG.low g hg)
/-- One element more, made in W1, appended to the row behind one more block. -/
theorem RowF.snoc {lo:Nat} {W W1 W3:World} {e:TypeId} {sz n m:Nat} {cs cs' : List Cel} {v v' : Value} {F G:List Nat} (h:RowF lo W e sz n cs v F) (hb:Below W.heap.size W W1) (hG:Fresh W.heap.size W1 G) (hlo:lo≤W.heap.size) {o:Obj}
  (hr:Row lo W3 e sz m cs' v' (F++G)) (hg:(W1.alloc o).grownBy W3 v.ownBlock):RowF lo W3 e sz m cs' v' (F++G):=by
 have hf:Fresh lo W1 (F++G):=h.fresh.more hb hG hlo
 have h4:=hf.step (belNew W1 o)
 refine ⟨hr,hf.nodup,hf.low,h4.live.keep fun g hgm=>hg.block g (h4.live.lt g hgm) fun e=>?_⟩
 rcases List.mem_append.1 hgm with hgm | hgm
 ·obtain ⟨h0,us,h1,h2,h3⟩:=h.row
  exact h3 g hgm e.symm
 ·exact h.far hG g hgm e.symm
theorem lie_nilN (w:World):Lie w (names []) (.slice none 0 0) []:=(RowF.nil 0 w 39 1 (by decide)).done.1
/-- '[]byte(s)': new bytes, in a block of their own, which may be written. -/
theorem conv_fresh (n:List Int) (hB:Byt n) (hl:n.length≤1048576) (w:World):∃ v w' F,(convert 9 39 (.string (strOfNums n))).run Tryz.prog w=.ok v w'∧Lie w' (raw n) v F∧Fresh w.heap.size w' F∧Below w.heap.size w w':=by
 have h:=run_bytes_of_string w 9 39 5 (strOfNums n) Tryz.underlying9 Tryz.underlying39 Tryz.underlying5
 have hge:=grownCap_ge w (strOfNums n).size 0 5
 have hle:=grownCap_le_maxLen w (strOfNums n).size 0 5 (by rw [strOfNums_size]; unfold maxLen; omega)
 generalize grownCap w (strOfNums n).size 0 5=cap at *
 have hrd:Rd (w.drew.alloc (.cells (bytesRow (strOfNums n) cap) 5 ((bytesRow (strOfNums n) cap).size,(bytesRow (strOfNums n) cap).size + 1))) (.slice (some ⟨w.heap.size,0,none⟩) (strOfNums n).size cap) (bs n):=by
  rw [strOfNums_size] at hge
  refine ⟨some ⟨w.heap.size,0,none⟩,cap,by rw [bs_length,strOfNums_size],by rw [bs_length]; exact hge,hle,fun _=>⟨w.heap.size,0,rfl,by simp,fun i u hu=>?_⟩⟩
  have hi:i < n.length:=by
   have:=(List.getElem?_eq_some_iff.1 hu).1
   rwa [bs_length] at this
  have hi2:i < (strOfNums n).data.size:=by have:=strOfNums_size n; rw [ByteArray.size] at this; omega
  rw [Nat.zero_add]
  refine (World.cell?_alloc_mark w.drew _ _ _ i).trans ?_
  rw [bytesRow_at _ _ _ hi2]
  have e1:(((strOfNums n)[i]'hi2).toNat:Int)=n.getD i 0:=str_get hB hi2
  have e2:u=.int .u8 n[i]:=by
   rw [bs,List.getElem?_map,List.getElem?_eq_getElem hi] at hu
   exact (Option.some.inj hu).symm
  rw [e2]
  have e3:n.getD i 0=n[i]:=by simp [List.getD,List.getElem?_eq_getElem hi]
  rw [← e3,← e1]
  rfl
 refine ⟨_,_,_,h,hrd.lie,⟨?_,fun g hg=>?_,fun g hg=>?_⟩,((Below.refl _ _).drew).alloc (Nat.le_refl _) _⟩
 ·cases (strOfNums n).size with
  | zero=>rw [blk_none]; exact List.nodup_nil
  | succ m=>simp [blk]
 ·cases hz:(strOfNums n).size with
  | zero=>rw [hz,blk_none] at hg; cases hg
  | succ m =>
    rw [hz,blk_some (Nat.succ_pos m)] at hg
    rw [List.mem_singleton.1 hg]
    exact Nat.le_refl _
 ·cases hz:(strOfNums n).size with
  | zero=>rw [hz,blk_none] at hg; cases hg
  | succ m =>
    rw [hz,blk_some (Nat.succ_pos m)] at hg
    rw [List.mem_singleton.1 hg]
    exact ⟨bytesRow (strOfNums n) cap,5,((bytesRow (strOfNums n) cap).size,(bytesRow (strOfNums n) cap).size + 1),by
     show (w.heap.push (.cells (bytesRow (strOfNums n) cap) 5 ((bytesRow (strOfNums n) cap).size,(bytesRow (strOfNums n) cap).size + 1)))[w.heap.size]? = _
     simp,.inr (Nat.le_refl _)⟩
end Go.Proofs.YtgaadpkefncnmaaGreatDoor
/-
  Strings of bytes are alike if the bytes are.
-/
namespace Go.Proofs.YtgaadpkefncnmaaGreatDoor
open Go.RowKit
/-- Strings of bytes are alike if the bytes are. -/
theorem str_eq {a b:List Int} (ha:Byt a) (hb:Byt b):((strOfNums a).toList == (strOfNums b).toList)=decide (a=b):=by
 by_cases h:a=b
 ·subst h; simp
 ·rw [decide_eq_false h]
  simp only [beq_eq_false_iff_ne]
  exact fun e=>h (str_inj ha hb e)
end Go.Proofs.YtgaadpkefncnmaaGreatDoor
/-
  PutText: the model and the program write the same bytes.
-/
namespace Go.Proofs.YtgaadpkefncnmaaGreatDoor
open Go.RowKit
/-- What PutText answers. -/
def putText (l t:List Int):List Int:=if 400 < t.length then l else putNum l t.length++t
theorem putText_byt {l t:List Int} (h:Byt l) (ht:Byt t):Byt (putText l t):=by
 unfold putText
 split
 ·exact h
 ·exact (putNum_byt h _).app ht
theorem putNum_len (l:List Int) (n:Int):(putNum l n).length≤l.length + 5:=by
 unfold putNum
 split
 ·omega
 ·rw [List.length_append]
  have:=vint_len n.toNat (by omega)
  omega
set_option maxRecDepth 20000 in
set_option maxHeartbeats 800000 in
theorem specPutText (l:List Int) (v:Value) (t:List Int) (u:Value) (w:World) (hv:Rd w v (bs l)) (hu:Rd w u (bs t)) (hl:l.length≤1099511627776) :
  Calls Tryz.prog 186 #[v,u] w fun e w'=>∃ v',e=.returned v'∧Own 5 w.heap.size w'.heap.size w' v' (bs (putText l t))∧Below w.heap.size w w':=by
 obtain ⟨i0,hi0,hz0,hz1,hz2⟩:=info_parts u8info
 obtain ⟨A,c,hV,hc1,hc2,_⟩:=id hv
 obtain ⟨A',c',hU,hc1',hc2',_⟩:=id hu
 rw [bs_length] at *
 unfold maxLen at hc2 hc2'
 subst hV hU
 have HV:=hide hv
 have HU:=hide hu
 clear hv hu
 by_cases h4:400 < t.length
 ·rw [putText,if_pos h4]
  go_enter Tryz.func186,Tryz.ntmps186
  go_wp2_with (at_builtin; refine wpList_app _ rfl (.tmp 8) (.tmp 9) _ rfl w.heap.size 5 i0 _ 1 Tryz.underlying39 hi0 hz0 hz1 hz2 rfl _ 0 [] rfl (own_lit0 w _) _ (bs l) rfl (HV.out.alloc _) (bs_one l) (by rw [bs_length]; simp only [maxLen]; omega) (by rw [bs_length]; omega) (by simp) ?_; intro v1 w1 own1 gr1)
  go_ret
  exact ⟨_,rfl,Own.of (own_cells own1 (List.nil_append _)) (by simp),below_app0 gr1⟩
 ·rw [putText,if_neg h4]
  obtain ⟨P,hP⟩:∃ P,putNum l t.length=P:=⟨_,rfl⟩
  have hroom:P.length≤l.length + 5:=by rw [← hP]; exact putNum_len l t.length
  rw [hP]
  have HP:=hide hP
  clear hP
  go_enter Tryz.func186,Tryz.ntmps186
  go_wp2_with fail
  refine (specPutNum l _ t.length w HV.out (by omega)).mono ?_
  rintro e w1 ⟨v1,rfl,o1,b1⟩
  rw [HP.out] at o1
  go_wp2_with (at_builtin; refine wpList_app _ rfl (.tmp 14) (.tmp 15) _ rfl w.heap.size 5 i0 _ 1 Tryz.underlying39 hi0 hz0 hz1 hz2 rfl _ _ _ rfl o1.1 _ (bs t) rfl (HU.out.below b1) (bs_one t) (by rw [bs_length,bs_length]; simp only [maxLen]; omega) (by rw [bs_length,bs_length]; omega) b1.size ?_; intro v2 w2 own2 gr2)
  go_ret
  exact ⟨_,rfl,Own.of (own_cells own2 (bs_append _ _).symm) (by simp [bs]),Below.row b1 b1.size o1.1 gr2⟩
set_option maxRecDepth 20000 in
set_option maxHeartbeats 800000 in
theorem appendText (l:List Int) (v:Value) (t:List Int) (u:Value) (lo:Nat) (w w0:World) (hv:w.ownsRow lo 5 1 v l.length (bs l)) (hu:Rd w0 u (bs t)) (h0:w0.heap.size=lo) (hb:Below lo w0 w) (hl:l.length≤1099511627776) :
  Calls Tryz.prog 224 #[v,u] w fun e w'=>∃ v',e=.returned v'∧w'.ownsRow lo 5 1 v' (putText l t).length (bs (putText l t))∧Below lo w w':=by
 obtain ⟨i0,hi0,hz0,hz1,hz2⟩:=info_parts u8info
 obtain ⟨A',c',hU,hc1',hc2',_⟩:=id hu
 rw [bs_length] at *
 unfold maxLen at hc2'
 subst hU
 have HV:=hide hv
 have HU:=hide hu
 clear hv hu
 have hlo:lo≤w.heap.size:=by rw [← h0]; exact hb.size
 have HB:=hide hb
 have H0:=hide h0
 clear hb h0
 by_cases h4:400 < t.length
 ·rw [putText,if_pos h4]
  go_enter Tryz.func224,Tryz.ntmps224
  go_wp2
  go_ret
  exact ⟨_,rfl,HV.out,Below.refl _ _⟩
 ·rw [putText,if_neg h4]
  obtain ⟨P,hP⟩:∃ P,putNum l t.length=P:=⟨_,rfl⟩
  have hroom:P.length≤l.length + 5:=by rw [← hP]; exact putNum_len l t.length
  rw [hP]
  have HP:=hide hP
  clear hP
  go_enter Tryz.func224,Tryz.ntmps224
  go_wp2_with fail
  refine (appendNum l _ t.length lo w HV.out hlo (by omega)).mono ?_
  rintro e w1 ⟨v1,rfl,o1,b1⟩
  rw [HP.out] at o1
  have hu1:Rd w1 (.slice A' t.length c') (bs t):=HU.out.below (by rw [H0.out]; exact HB.out.trans b1)
  have hlo1:lo≤w1.heap.size:=Nat.le_trans hlo b1.size
  go_wp2_with (at_builtin; refine wpList_app _ rfl (.tmp 12) (.tmp 13) _ rfl lo 5 i0 _ 1 Tryz.underlying39 hi0 hz0 hz1 hz2 rfl _ _ _ rfl o1 _ (bs t) rfl hu1 (bs_one t) (by rw [bs_length]; simp only [maxLen]; omega) (by rw [bs_length]; omega) hlo1 ?_; intro v2 w2 own2 gr2)
  go_ret
  exact ⟨_,rfl,own_len (own_cells own2 (bs_append _ _).symm) (by simp [bs]),Below.row b1 hlo1 o1 gr2⟩
end Go.Proofs.YtgaadpkefncnmaaGreatDoor
/-
  The laws' copies of trees: each in blocks of its own, one behind the other.
-/
namespace Go.Proofs.YtgaadpkefncnmaaGreatDoor
open Go.RowKit
set_option linter.unusedVariables false
theorem namesInfo:(Tryz.prog.info? 39).map (fun i=>(i.zero,i.size,i.bytes))=some (some (.slice none 0 0),1,24):=by kernel_rfl
/-- Rows of bytes, one behind the other, from the block lo on and below hi. -/
def Chain (w:World):Nat→List (List Int)→List Value→Nat→Prop
 | lo,[],us,hi=>us = []∧lo≤hi
 | lo,n :: ns,us,hi=>∃ u r m,us=u :: r∧Own 5 lo m w u (bs n)∧lo≤m∧Chain w m ns r hi
theorem Chain.le {w:World} : ∀ {lo:Nat} {ns:List (List Int)} {us:List Value} {hi:Nat},Chain w lo ns us hi→lo≤hi
 | lo,[],us,hi,h=>h.2
 | lo,n :: ns,us,hi,⟨u,r,m,_,_,hm,h⟩=>Nat.le_trans hm h.le
theorem Chain.len {w:World} : ∀ {lo:Nat} {ns:List (List Int)} {us:List Value} {hi:Nat},Chain w lo ns us hi→us.length=ns.length
 | lo,[],us,hi,h=>by rw [h.1]; rfl
 | lo,n :: ns,us,hi,⟨u,r,m,e,_,_,h⟩=>by rw [e]; simp [h.len]
theorem Chain.snoc {w:World} {n:List Int} {u:Value} {hi' : Nat} : ∀ {lo:Nat} {ns:List (List Int)} {us:List Value} {hi:Nat},Chain w lo ns us hi→Own 5 hi hi' w u (bs n)→hi≤hi'→Chain w lo (ns++[n]) (us++[u]) hi'
 | lo,[],us,hi,h,ho,hh=>by
   obtain ⟨rfl,hl⟩:=h
   exact ⟨u,[],hi',rfl,ho.wide hl (Nat.le_refl _) ho.2.1,by omega,rfl,Nat.le_refl _⟩
 | lo,m :: ns,us,hi,⟨v,r,k,e,o,hk,h⟩,ho,hh=>by
   subst e
   exact ⟨v,r++[u],k,rfl,o,hk,h.snoc ho hh⟩
theorem Chain.out {w w' : World} {lo' hi' : Nat} (ho:Outside lo' hi' w w'):∀ {lo:Nat} {ns:List (List Int)} {us:List Value} {hi:Nat},Chain w lo ns us hi→hi'≤lo→Chain w' lo ns us hi
 | lo,[],us,hi,h,_=>h
 | lo,n :: ns,us,hi,⟨u,r,m,e,o,hm,h⟩,hd=>⟨u,r,m,e,o.outside ho (.inr hd),hm,h.out ho (by omega)⟩
theorem Chain.lower {w:World} {lo lo2:Nat} : ∀ {ns:List (List Int)} {us:List Value} {hi:Nat},Chain w lo ns us hi→lo2≤lo→Chain w lo2 ns us hi
 | [],us,hi,h,hl=>⟨h.1,by have:=h.2; omega⟩
 | n :: ns,us,hi,⟨u,r,m,e,o,hm,h⟩,hl=>⟨u,r,m,e,o.wide hl (Nat.le_refl _) o.2.1,by omega,h⟩
theorem Chain.step {w w' : World} {lo:Nat} {ns:List (List Int)} {us:List Value} {hi:Nat} (h:Chain w lo ns us hi) (hb:Below w.heap.size w w'):Chain w' lo ns us hi :=
 h.out (Outside.of_below hb 0 0) (Nat.zero_le _)
theorem Chain.at_ {w:World} : ∀ {lo:Nat} {ns:List (List Int)} {us:List Value} {hi:Nat},Chain w lo ns us hi→∀ i u,us[i]? = some u→Rd w u (bs (ns.getD i []))
 | lo,[],us,hi,h,i,u,hu=>by rw [h.1] at hu; simp at hu
 | lo,n :: ns,us,hi,⟨v,r,m,e,o,_,h⟩,i,u,hu=>by
   subst e
   cases i with
   | zero =>
     simp at hu
     subst hu
     exact o.rd
   | succ i=>simpa using h.at_ i u (by simpa using hu)
/-- A slice of slices of bytes, all in blocks of its own. -/
def OwnN (lo hi:Nat) (w:World) (v:Value) (ns:List (List Int)):Prop:=∃ us m,Own 39 lo m w v us∧lo≤m∧Chain w m ns us hi
theorem OwnN.rd {lo hi:Nat} {w:World} {v:Value} {ns:List (List Int)} (h:OwnN lo hi w v ns):RdN w v ns:=by
 obtain ⟨us,m,h1,_,h2⟩:=h
 exact ⟨us,h1.rd,h2.len,h2.at_⟩
theorem OwnN.out {lo hi lo' hi' : Nat} {w w' : World} {v:Value} {ns:List (List Int)} (h:OwnN lo hi w v ns) (ho:Outside lo' hi' w w') (hd:hi'≤lo):OwnN lo hi w' v ns:=by
 obtain ⟨us,m,h1,hm,h2⟩:=h
 exact ⟨us,m,h1.outside ho (.inr hd),hm,h2.out ho (by omega)⟩
theorem OwnN.le {lo hi:Nat} {w:World} {v:Value} {ns:List (List Int)} (h:OwnN lo hi w v ns):lo≤hi:=by
 obtain ⟨us,m,h1,hm,h2⟩:=h
 exact Nat.le_trans hm h2.le
theorem Own.whole {e:TypeId} {lo b n c:Nat} {w:World} {xs:List Value} (h:w.ownsRow lo e 1 (.slice (some ⟨b,0,none⟩) n c) n xs) (hn:n=xs.length) (hb:b < w.heap.size):Own e lo (b + 1) w (.slice (some ⟨b,0,none⟩) n c) xs:=by
 subst hn
 refine ⟨h,by omega,fun g hg=>?_⟩
 have h2:b=g:=Option.some.inj hg
 omega
end Go.Proofs.YtgaadpkefncnmaaGreatDoor
/-
  Structs seen cell by cell, and laid together.
-/
namespace Go.Proofs.YtgaadpkefncnmaaGreatDoor
open Go.RowKit
set_option linter.unusedVariables false
theorem ins_nil (w:World):Ins w [] []:=⟨_,lies_nil w⟩
theorem ins_cons {w:World} {c:Cel} {cs:List Cel} {v:Value} {us:List Value} (h:In1 w c v) (k:Ins w cs us):Ins w (c :: cs) (v :: us):=h.elim fun F h=>k.elim fun G k=>⟨F++G,lies_cons h k⟩
theorem in1_num (w:World) (k:IntKind) (n:Int):In1 w (.num k n) (.int k n):=⟨_,lie_num w k n⟩
theorem in1_flag (w:World) (b:Bool):In1 w (.flag b) (.bool b):=⟨_,lie_flag w b⟩
theorem T.view {w:World} {x:T} {us:List Value} (h:Ins w x.cells us):∃ A1 c1 A2 c2 A3 c3,us = [.int .i64 x.kind,.slice A1 x.data.length c1,.slice A2 x.names.length c2,.slice A3 x.kids.length c3]∧In1 w (raw x.data) (.slice A1 x.data.length c1)∧In1 w (Go.Proofs.YtgaadpkefncnmaaGreatDoor.names x.names) (.slice A2 x.names.length c2)∧In1 w (seqOf 4 T.cells x.kids) (.slice A3 x.kids.length c3):=by
 obtain ⟨F,h⟩:=h
 rw [x.cells_eq] at h
 rw [Lies] at h
 obtain ⟨u0,r0,F0,G0,rfl,rfl,h0,h⟩:=h
 rw [Lies] at h
 obtain ⟨u1,r1,F1,G1,rfl,rfl,h1,h⟩:=h
 rw [Lies] at h
 obtain ⟨u2,r2,F2,G2,rfl,rfl,h2,h⟩:=h
 rw [Lies] at h
 obtain ⟨u3,r3,F3,G3,rfl,rfl,h3,h⟩:=h
 rw [Lies] at h
 obtain ⟨rfl,rfl⟩:=h
 rw [Lie] at h0
 obtain ⟨rfl,rfl⟩:=h0
 obtain ⟨A1,c1,rfl,_,_⟩:=h1.form
 obtain ⟨A2,c2,rfl,_,_⟩:=h2.form
 obtain ⟨A3,c3,rfl,_,_⟩:=h3.form
 exact ⟨A1,c1,A2,c2,A3,c3,rfl,⟨_,h1⟩,⟨_,h2⟩,⟨_,h3⟩⟩
theorem T.lay {w:World} {x:T} {v1:Value} (h1:In1 w (raw x.data) v1) {v2:Value} (h2:In1 w (Go.Proofs.YtgaadpkefncnmaaGreatDoor.names x.names) v2) {v3:Value} (h3:In1 w (seqOf 4 T.cells x.kids) v3):Ins w x.cells [.int .i64 x.kind,v1,v2,v3]:=by
 rw [x.cells_eq]
 exact ins_cons (in1_num _ _ _) (ins_cons (h1) (ins_cons (h2) (ins_cons (h3) (ins_nil _))))
theorem DReal.view {w:World} {x:DReal} {us:List Value} (h:Ins w x.cells us):∃ A0 c0 A1 c1 A2 c2,us = [.slice A0 x.drv.length c0,.slice A1 x.out.length c1,.slice A2 x.path.length c2]∧In1 w (raw x.drv) (.slice A0 x.drv.length c0)∧In1 w (raw x.out) (.slice A1 x.out.length c1)∧In1 w (raw x.path) (.slice A2 x.path.length c2):=by
 obtain ⟨F,h⟩:=h
 rw [x.cells_eq] at h
 rw [Lies] at h
 obtain ⟨u0,r0,F0,G0,rfl,rfl,h0,h⟩:=h
 rw [Lies] at h
 obtain ⟨u1,r1,F1,G1,rfl,rfl,h1,h⟩:=h
 rw [Lies] at h
 obtain ⟨u2,r2,F2,G2,rfl,rfl,h2,h⟩:=h
 rw [Lies] at h
 obtain ⟨rfl,rfl⟩:=h
 obtain ⟨A0,c0,rfl,_,_⟩:=h0.form
 obtain ⟨A1,c1,rfl,_,_⟩:=h1.form
 obtain ⟨A2,c2,rfl,_,_⟩:=h2.form
 exact ⟨A0,c0,A1,c1,A2,c2,rfl,⟨_,h0⟩,⟨_,h1⟩,⟨_,h2⟩⟩
theorem DReal.lay {w:World} {x:DReal} {v0:Value} (h0:In1 w (raw x.drv) v0) {v1:Value} (h1:In1 w (raw x.out) v1) {v2:Value} (h2:In1 w (raw x.path) v2):Ins w x.cells [v0,v1,v2]:=by
 rw [x.cells_eq]
 exact ins_cons (h0) (ins_cons (h1) (ins_cons (h2) (ins_nil _)))
theorem DOp.view {w:World} {x:DOp} {us:List Value} (h:Ins w x.cells us):∃ A2 c2 A3 c3,us = [.int .i64 x.code,.int .i64 x.out,.slice A2 x.name.length c2,.slice A3 x.text.length c3,.int .i64 x.arg]∧In1 w (raw x.name) (.slice A2 x.name.length c2)∧In1 w (raw x.text) (.slice A3 x.text.length c3):=by
 obtain ⟨F,h⟩:=h
 rw [x.cells_eq] at h
 rw [Lies] at h
 obtain ⟨u0,r0,F0,G0,rfl,rfl,h0,h⟩:=h
 rw [Lies] at h
 obtain ⟨u1,r1,F1,G1,rfl,rfl,h1,h⟩:=h
 rw [Lies] at h
 obtain ⟨u2,r2,F2,G2,rfl,rfl,h2,h⟩:=h
 rw [Lies] at h
 obtain ⟨u3,r3,F3,G3,rfl,rfl,h3,h⟩:=h
 rw [Lies] at h
 obtain ⟨u4,r4,F4,G4,rfl,rfl,h4,h⟩:=h
 rw [Lies] at h
 obtain ⟨rfl,rfl⟩:=h
 rw [Lie] at h0
 obtain ⟨rfl,rfl⟩:=h0
 rw [Lie] at h1
 obtain ⟨rfl,rfl⟩:=h1
 obtain ⟨A2,c2,rfl,_,_⟩:=h2.form
 obtain ⟨A3,c3,rfl,_,_⟩:=h3.form
 rw [Lie] at h4
 obtain ⟨rfl,rfl⟩:=h4
 exact ⟨A2,c2,A3,c3,rfl,⟨_,h2⟩,⟨_,h3⟩⟩
theorem DOp.lay {w:World} {x:DOp} {v2:Value} (h2:In1 w (raw x.name) v2) {v3:Value} (h3:In1 w (raw x.text) v3):Ins w x.cells [.int .i64 x.code,.int .i64 x.out,v2,v3,.int .i64 x.arg]:=by
 rw [x.cells_eq]
 exact ins_cons (in1_num _ _ _) (ins_cons (in1_num _ _ _) (ins_cons (h2) (ins_cons (h3) (ins_cons (in1_num _ _ _) (ins_nil _)))))
theorem DIn.view {w:World} {x:DIn} {us:List Value} (h:Ins w x.cells us):∃ A0 c0 A1 c1,us = [.slice A0 x.drv.length c0,.slice A1 x.out.length c1]∧In1 w (raw x.drv) (.slice A0 x.drv.length c0)∧In1 w (raw x.out) (.slice A1 x.out.length c1):=by
 obtain ⟨F,h⟩:=h
 rw [x.cells_eq] at h
 rw [Lies] at h
 obtain ⟨u0,r0,F0,G0,rfl,rfl,h0,h⟩:=h
 rw [Lies] at h
 obtain ⟨u1,r1,F1,G1,rfl,rfl,h1,h⟩:=h
 rw [Lies] at h
 obtain ⟨rfl,rfl⟩:=h
 obtain ⟨A0,c0,rfl,_,_⟩:=h0.form
 obtain ⟨A1,c1,rfl,_,_⟩:=h1.form
 exact ⟨A0,c0,A1,c1,rfl,⟨_,h0⟩,⟨_,h1⟩⟩
theorem DIn.lay {w:World} {x:DIn} {v0:Value} (h0:In1 w (raw x.drv) v0) {v1:Value} (h1:In1 w (raw x.out) v1):Ins w x.cells [v0,v1]:=by
 rw [x.cells_eq]
 exact ins_cons (h0) (ins_cons (h1) (ins_nil _))
theorem DObj.view {w:World} {x:DObj} {us:List Value} (h:Ins w x.cells us):∃ A0 c0 A3 c3 A4 c4 A5 c5 A6 c6 A7 c7 A8 c8,us = [.slice A0 x.name.length c0,.int .i64 x.kind,.int .i64 x.tree.kind,.slice A3 x.tree.data.length c3,.slice A4 x.tree.names.length c4,.slice A5 x.tree.kids.length c5,.slice A6 x.refs.length c6,.slice A7 x.frm.length c7,.slice A8 x.out.length c8]∧In1 w (raw x.name) (.slice A0 x.name.length c0)∧In1 w (raw x.tree.data) (.slice A3 x.tree.data.length c3)∧In1 w (Go.Proofs.YtgaadpkefncnmaaGreatDoor.names x.tree.names) (.slice A4 x.tree.names.length c4)∧In1 w (seqOf 4 T.cells x.tree.kids) (.slice A5 x.tree.kids.length c5)∧In1 w (Go.Proofs.YtgaadpkefncnmaaGreatDoor.names x.refs) (.slice A6 x.refs.length c6)∧In1 w (raw x.frm) (.slice A7 x.frm.length c7)∧In1 w (raw x.out) (.slice A8 x.out.length c8):=by
 obtain ⟨F,h⟩:=h
 rw [x.cells_eq] at h
 rw [Lies] at h
 obtain ⟨u0,r0,F0,G0,rfl,rfl,h0,h⟩:=h
 rw [Lies] at h
 obtain ⟨u1,r1,F1,G1,rfl,rfl,h1,h⟩:=h
 rw [Lies] at h
 obtain ⟨u2,r2,F2,G2,rfl,rfl,h2,h⟩:=h
 rw [Lies] at h
 obtain ⟨u3,r3,F3,G3,rfl,rfl,h3,h⟩:=h
 rw [Lies] at h
 obtain ⟨u4,r4,F4,G4,rfl,rfl,h4,h⟩:=h
 rw [Lies] at h
 obtain ⟨u5,r5,F5,G5,rfl,rfl,h5,h⟩:=h
 rw [Lies] at h
 obtain ⟨u6,r6,F6,G6,rfl,rfl,h6,h⟩:=h
 rw [Lies] at h
 obtain ⟨u7,r7,F7,G7,rfl,rfl,h7,h⟩:=h
 rw [Lies] at h
 obtain ⟨u8,r8,F8,G8,rfl,rfl,h8,h⟩:=h
 rw [Lies] at h
 obtain ⟨rfl,rfl⟩:=h
 obtain ⟨A0,c0,rfl,_,_⟩:=h0.form
 rw [Lie] at h1
 obtain ⟨rfl,rfl⟩:=h1
 rw [Lie] at h2
 obtain ⟨rfl,rfl⟩:=h2
 obtain ⟨A3,c3,rfl,_,_⟩:=h3.form
 obtain ⟨A4,c4,rfl,_,_⟩:=h4.form
 obtain ⟨A5,c5,rfl,_,_⟩:=h5.form
 obtain ⟨A6,c6,rfl,_,_⟩:=h6.form
 obtain ⟨A7,c7,rfl,_,_⟩:=h7.form
 obtain ⟨A8,c8,rfl,_,_⟩:=h8.form
 exact ⟨A0,c0,A3,c3,A4,c4,A5,c5,A6,c6,A7,c7,A8,c8,rfl,⟨_,h0⟩,⟨_,h3⟩,⟨_,h4⟩,⟨_,h5⟩,⟨_,h6⟩,⟨_,h7⟩,⟨_,h8⟩⟩
theorem DObj.lay {w:World} {x:DObj} {v0:Value} (h0:In1 w (raw x.name) v0) {v3:Value} (h3:In1 w (raw x.tree.data) v3) {v4:Value} (h4:In1 w (Go.Proofs.YtgaadpkefncnmaaGreatDoor.names x.tree.names) v4) {v5:Value} (h5:In1 w (seqOf 4 T.cells x.tree.kids) v5) {v6:Value} (h6:In1 w (Go.Proofs.YtgaadpkefncnmaaGreatDoor.names x.refs) v6) {v7:Value} (h7:In1 w (raw x.frm) v7) {v8:Value} (h8:In1 w (raw x.out) v8):Ins w x.cells [v0,.int .i64 x.kind,.int .i64 x.tree.kind,v3,v4,v5,v6,v7,v8]:=by
 rw [x.cells_eq]
 exact ins_cons (h0) (ins_cons (in1_num _ _ _) (ins_cons (in1_num _ _ _) (ins_cons (h3) (ins_cons (h4) (ins_cons (h5) (ins_cons (h6) (ins_cons (h7) (ins_cons (h8) (ins_nil _)))))))))
theorem DDrv.view {w:World} {x:DDrv} {us:List Value} (h:Ins w x.cells us):∃ A0 c0 A1 c1 A2 c2 A3 c3,us = [.slice A0 x.srcs.length c0,.slice A1 x.ins.length c1,.slice A2 x.outs.length c2,.slice A3 x.ops.length c3]∧In1 w (Go.Proofs.YtgaadpkefncnmaaGreatDoor.names x.srcs) (.slice A0 x.srcs.length c0)∧In1 w (seqOf 2 DIn.cells x.ins) (.slice A1 x.ins.length c1)∧In1 w (Go.Proofs.YtgaadpkefncnmaaGreatDoor.names x.outs) (.slice A2 x.outs.length c2)∧In1 w (seqOf 5 DOp.cells x.ops) (.slice A3 x.ops.length c3):=by
 obtain ⟨F,h⟩:=h
 rw [x.cells_eq] at h
 rw [Lies] at h
 obtain ⟨u0,r0,F0,G0,rfl,rfl,h0,h⟩:=h
 rw [Lies] at h
 obtain ⟨u1,r1,F1,G1,rfl,rfl,h1,h⟩:=h
 rw [Lies] at h
 obtain ⟨u2,r2,F2,G2,rfl,rfl,h2,h⟩:=h
 rw [Lies] at h
 obtain ⟨u3,r3,F3,G3,rfl,rfl,h3,h⟩:=h
 rw [Lies] at h
 obtain ⟨rfl,rfl⟩:=h
 obtain ⟨A0,c0,rfl,_,_⟩:=h0.form
 obtain ⟨A1,c1,rfl,_,_⟩:=h1.form
 obtain ⟨A2,c2,rfl,_,_⟩:=h2.form
 obtain ⟨A3,c3,rfl,_,_⟩:=h3.form
 exact ⟨A0,c0,A1,c1,A2,c2,A3,c3,rfl,⟨_,h0⟩,⟨_,h1⟩,⟨_,h2⟩,⟨_,h3⟩⟩
theorem DDrv.lay {w:World} {x:DDrv} {v0:Value} (h0:In1 w (Go.Proofs.YtgaadpkefncnmaaGreatDoor.names x.srcs) v0) {v1:Value} (h1:In1 w (seqOf 2 DIn.cells x.ins) v1) {v2:Value} (h2:In1 w (Go.Proofs.YtgaadpkefncnmaaGreatDoor.names x.outs) v2) {v3:Value} (h3:In1 w (seqOf 5 DOp.cells x.ops) v3):Ins w x.cells [v0,v1,v2,v3]:=by
 rw [x.cells_eq]
 exact ins_cons (h0) (ins_cons (h1) (ins_cons (h2) (ins_cons (h3) (ins_nil _))))
theorem DStore.view {w:World} {x:DStore} {us:List Value} (h:Ins w x.cells us):∃ A0 c0 A1 c1 A2 c2,us = [.slice A0 x.objs.length c0,.slice A1 x.roots.length c1,.slice A2 x.reals.length c2]∧In1 w (seqOf 9 DObj.cells x.objs) (.slice A0 x.objs.length c0)∧In1 w (Go.Proofs.YtgaadpkefncnmaaGreatDoor.names x.roots) (.slice A1 x.roots.length c1)∧In1 w (seqOf 3 DReal.cells x.reals) (.slice A2 x.reals.length c2):=by
 obtain ⟨F,h⟩:=h
 rw [x.cells_eq] at h
 rw [Lies] at h
 obtain ⟨u0,r0,F0,G0,rfl,rfl,h0,h⟩:=h
 rw [Lies] at h
 obtain ⟨u1,r1,F1,G1,rfl,rfl,h1,h⟩:=h
 rw [Lies] at h
 obtain ⟨u2,r2,F2,G2,rfl,rfl,h2,h⟩:=h
 rw [Lies] at h
 obtain ⟨rfl,rfl⟩:=h
 obtain ⟨A0,c0,rfl,_,_⟩:=h0.form
 obtain ⟨A1,c1,rfl,_,_⟩:=h1.form
 obtain ⟨A2,c2,rfl,_,_⟩:=h2.form
 exact ⟨A0,c0,A1,c1,A2,c2,rfl,⟨_,h0⟩,⟨_,h1⟩,⟨_,h2⟩⟩
theorem DStore.lay {w:World} {x:DStore} {v0:Value} (h0:In1 w (seqOf 9 DObj.cells x.objs) v0) {v1:Value} (h1:In1 w (Go.Proofs.YtgaadpkefncnmaaGreatDoor.names x.roots) v1) {v2:Value} (h2:In1 w (seqOf 3 DReal.cells x.reals) v2):Ins w x.cells [v0,v1,v2]:=by
 rw [x.cells_eq]
 exact ins_cons (h0) (ins_cons (h1) (ins_cons (h2) (ins_nil _)))
theorem DJob.view {w:World} {x:DJob} {us:List Value} (h:Ins w x.cells us):∃ A0 c0 A1 c1 A2 c2 A3 c3 A4 c4 A6 c6 A7 c7,us = [.slice A0 x.d.srcs.length c0,.slice A1 x.d.ins.length c1,.slice A2 x.d.outs.length c2,.slice A3 x.d.ops.length c3,.slice A4 x.name.length c4,.int .i64 x.pc,.slice A6 x.args.length c6,.slice A7 x.outs.length c7]∧In1 w (Go.Proofs.YtgaadpkefncnmaaGreatDoor.names x.d.srcs) (.slice A0 x.d.srcs.length c0)∧In1 w (seqOf 2 DIn.cells x.d.ins) (.slice A1 x.d.ins.length c1)∧In1 w (Go.Proofs.YtgaadpkefncnmaaGreatDoor.names x.d.outs) (.slice A2 x.d.outs.length c2)∧In1 w (seqOf 5 DOp.cells x.d.ops) (.slice A3 x.d.ops.length c3)∧In1 w (raw x.name) (.slice A4 x.name.length c4)∧In1 w (Go.Proofs.YtgaadpkefncnmaaGreatDoor.names x.args) (.slice A6 x.args.length c6)∧In1 w (seqOf 4 T.cells x.outs) (.slice A7 x.outs.length c7):=by
 obtain ⟨F,h⟩:=h
 rw [x.cells_eq] at h
 rw [Lies] at h
 obtain ⟨u0,r0,F0,G0,rfl,rfl,h0,h⟩:=h
 rw [Lies] at h
 obtain ⟨u1,r1,F1,G1,rfl,rfl,h1,h⟩:=h
 rw [Lies] at h
 obtain ⟨u2,r2,F2,G2,rfl,rfl,h2,h⟩:=h
 rw [Lies] at h
 obtain ⟨u3,r3,F3,G3,rfl,rfl,h3,h⟩:=h
 rw [Lies] at h
 obtain ⟨u4,r4,F4,G4,rfl,rfl,h4,h⟩:=h
 rw [Lies] at h
 obtain ⟨u5,r5,F5,G5,rfl,rfl,h5,h⟩:=h
 rw [Lies] at h
 obtain ⟨u6,r6,F6,G6,rfl,rfl,h6,h⟩:=h
 rw [Lies] at h
 obtain ⟨u7,r7,F7,G7,rfl,rfl,h7,h⟩:=h
 rw [Lies] at h
 obtain ⟨rfl,rfl⟩:=h
 obtain ⟨A0,c0,rfl,_,_⟩:=h0.form
 obtain ⟨A1,c1,rfl,_,_⟩:=h1.form
 obtain ⟨A2,c2,rfl,_,_⟩:=h2.form
 obtain ⟨A3,c3,rfl,_,_⟩:=h3.form
 obtain ⟨A4,c4,rfl,_,_⟩:=h4.form
 rw [Lie] at h5
 obtain ⟨rfl,rfl⟩:=h5
 obtain ⟨A6,c6,rfl,_,_⟩:=h6.form
 obtain ⟨A7,c7,rfl,_,_⟩:=h7.form
 exact ⟨A0,c0,A1,c1,A2,c2,A3,c3,A4,c4,A6,c6,A7,c7,rfl,⟨_,h0⟩,⟨_,h1⟩,⟨_,h2⟩,⟨_,h3⟩,⟨_,h4⟩,⟨_,h6⟩,⟨_,h7⟩⟩
theorem DJob.lay {w:World} {x:DJob} {v0:Value} (h0:In1 w (Go.Proofs.YtgaadpkefncnmaaGreatDoor.names x.d.srcs) v0) {v1:Value} (h1:In1 w (seqOf 2 DIn.cells x.d.ins) v1) {v2:Value} (h2:In1 w (Go.Proofs.YtgaadpkefncnmaaGreatDoor.names x.d.outs) v2) {v3:Value} (h3:In1 w (seqOf 5 DOp.cells x.d.ops) v3) {v4:Value} (h4:In1 w (raw x.name) v4) {v6:Value} (h6:In1 w (Go.Proofs.YtgaadpkefncnmaaGreatDoor.names x.args) v6) {v7:Value} (h7:In1 w (seqOf 4 T.cells x.outs) v7):Ins w x.cells [v0,v1,v2,v3,v4,.int .i64 x.pc,v6,v7]:=by
 rw [x.cells_eq]
 exact ins_cons (h0) (ins_cons (h1) (ins_cons (h2) (ins_cons (h3) (ins_cons (h4) (ins_cons (in1_num _ _ _) (ins_cons (h6) (ins_cons (h7) (ins_nil _))))))))
theorem DGoal.view {w:World} {x:DGoal} {us:List Value} (h:Ins w x.cells us):∃ A0 c0 A4 c4 A5 c5 A6 c6 A7 c7 A8 c8 A10 c10 A11 c11 A12 c12,us = [.slice A0 x.drv.length c0,.int .i64 x.state,.int .i64 x.err,.bool x.begun,.slice A4 x.job.d.srcs.length c4,.slice A5 x.job.d.ins.length c5,.slice A6 x.job.d.outs.length c6,.slice A7 x.job.d.ops.length c7,.slice A8 x.job.name.length c8,.int .i64 x.job.pc,.slice A10 x.job.args.length c10,.slice A11 x.job.outs.length c11,.slice A12 x.need.length c12]∧In1 w (raw x.drv) (.slice A0 x.drv.length c0)∧In1 w (Go.Proofs.YtgaadpkefncnmaaGreatDoor.names x.job.d.srcs) (.slice A4 x.job.d.srcs.length c4)∧In1 w (seqOf 2 DIn.cells x.job.d.ins) (.slice A5 x.job.d.ins.length c5)∧In1 w (Go.Proofs.YtgaadpkefncnmaaGreatDoor.names x.job.d.outs) (.slice A6 x.job.d.outs.length c6)∧In1 w (seqOf 5 DOp.cells x.job.d.ops) (.slice A7 x.job.d.ops.length c7)∧In1 w (raw x.job.name) (.slice A8 x.job.name.length c8)∧In1 w (Go.Proofs.YtgaadpkefncnmaaGreatDoor.names x.job.args) (.slice A10 x.job.args.length c10)∧In1 w (seqOf 4 T.cells x.job.outs) (.slice A11 x.job.outs.length c11)∧In1 w (Go.Proofs.YtgaadpkefncnmaaGreatDoor.names x.need) (.slice A12 x.need.length c12):=by
 obtain ⟨F,h⟩:=h
 rw [x.cells_eq] at h
 rw [Lies] at h
 obtain ⟨u0,r0,F0,G0,rfl,rfl,h0,h⟩:=h
 rw [Lies] at h
 obtain ⟨u1,r1,F1,G1,rfl,rfl,h1,h⟩:=h
 rw [Lies] at h
 obtain ⟨u2,r2,F2,G2,rfl,rfl,h2,h⟩:=h
 rw [Lies] at h
 obtain ⟨u3,r3,F3,G3,rfl,rfl,h3,h⟩:=h
 rw [Lies] at h
 obtain ⟨u4,r4,F4,G4,rfl,rfl,h4,h⟩:=h
 rw [Lies] at h
 obtain ⟨u5,r5,F5,G5,rfl,rfl,h5,h⟩:=h
 rw [Lies] at h
 obtain ⟨u6,r6,F6,G6,rfl,rfl,h6,h⟩:=h
 rw [Lies] at h
 obtain ⟨u7,r7,F7,G7,rfl,rfl,h7,h⟩:=h
 rw [Lies] at h
 obtain ⟨u8,r8,F8,G8,rfl,rfl,h8,h⟩:=h
 rw [Lies] at h
 obtain ⟨u9,r9,F9,G9,rfl,rfl,h9,h⟩:=h
 rw [Lies] at h
 obtain ⟨u10,r10,F10,G10,rfl,rfl,h10,h⟩:=h
 rw [Lies] at h
 obtain ⟨u11,r11,F11,G11,rfl,rfl,h11,h⟩:=h
 rw [Lies] at h
 obtain ⟨u12,r12,F12,G12,rfl,rfl,h12,h⟩:=h
 rw [Lies] at h
 obtain ⟨rfl,rfl⟩:=h
 obtain ⟨A0,c0,rfl,_,_⟩:=h0.form
 rw [Lie] at h1
 obtain ⟨rfl,rfl⟩:=h1
 rw [Lie] at h2
 obtain ⟨rfl,rfl⟩:=h2
 rw [Lie] at h3
 obtain ⟨rfl,rfl⟩:=h3
 obtain ⟨A4,c4,rfl,_,_⟩:=h4.form
 obtain ⟨A5,c5,rfl,_,_⟩:=h5.form
 obtain ⟨A6,c6,rfl,_,_⟩:=h6.form
 obtain ⟨A7,c7,rfl,_,_⟩:=h7.form
 obtain ⟨A8,c8,rfl,_,_⟩:=h8.form
 rw [Lie] at h9
 obtain ⟨rfl,rfl⟩:=h9
 obtain ⟨A10,c10,rfl,_,_⟩:=h10.form
 obtain ⟨A11,c11,rfl,_,_⟩:=h11.form
 obtain ⟨A12,c12,rfl,_,_⟩:=h12.form
 exact ⟨A0,c0,A4,c4,A5,c5,A6,c6,A7,c7,A8,c8,A10,c10,A11,c11,A12,c12,rfl,⟨_,h0⟩,⟨_,h4⟩,⟨_,h5⟩,⟨_,h6⟩,⟨_,h7⟩,⟨_,h8⟩,⟨_,h10⟩,⟨_,h11⟩,⟨_,h12⟩⟩
theorem DGoal.lay {w:World} {x:DGoal} {v0:Value} (h0:In1 w (raw x.drv) v0) {v4:Value} (h4:In1 w (Go.Proofs.YtgaadpkefncnmaaGreatDoor.names x.job.d.srcs) v4) {v5:Value} (h5:In1 w (seqOf 2 DIn.cells x.job.d.ins) v5) {v6:Value} (h6:In1 w (Go.Proofs.YtgaadpkefncnmaaGreatDoor.names x.job.d.outs) v6) {v7:Value} (h7:In1 w (seqOf 5 DOp.cells x.job.d.ops) v7) {v8:Value} (h8:In1 w (raw x.job.name) v8) {v10:Value} (h10:In1 w (Go.Proofs.YtgaadpkefncnmaaGreatDoor.names x.job.args) v10) {v11:Value} (h11:In1 w (seqOf 4 T.cells x.job.outs) v11) {v12:Value} (h12:In1 w (Go.Proofs.YtgaadpkefncnmaaGreatDoor.names x.need) v12):Ins w x.cells [v0,.int .i64 x.state,.int .i64 x.err,.bool x.begun,v4,v5,v6,v7,v8,.int .i64 x.job.pc,v10,v11,v12]:=by
 rw [x.cells_eq]
 exact ins_cons (h0) (ins_cons (in1_num _ _ _) (ins_cons (in1_num _ _ _) (ins_cons (in1_flag _ _) (ins_cons (h4) (ins_cons (h5) (ins_cons (h6) (ins_cons (h7) (ins_cons (h8) (ins_cons (in1_num _ _ _) (ins_cons (h10) (ins_cons (h11) (ins_cons (h12) (ins_nil _)))))))))))))
theorem DEngine.view {w:World} {x:DEngine} {us:List Value} (h:Ins w x.cells us):∃ A0 c0 A1 c1 A2 c2 A3 c3,us = [.slice A0 x.store.objs.length c0,.slice A1 x.store.roots.length c1,.slice A2 x.store.reals.length c2,.slice A3 x.goals.length c3]∧In1 w (seqOf 9 DObj.cells x.store.objs) (.slice A0 x.store.objs.length c0)∧In1 w (Go.Proofs.YtgaadpkefncnmaaGreatDoor.names x.store.roots) (.slice A1 x.store.roots.length c1)∧In1 w (seqOf 3 DReal.cells x.store.reals) (.slice A2 x.store.reals.length c2)∧In1 w (seqOf 13 DGoal.cells x.goals) (.slice A3 x.goals.length c3):=by
 obtain ⟨F,h⟩:=h
 rw [x.cells_eq] at h
 rw [Lies] at h
 obtain ⟨u0,r0,F0,G0,rfl,rfl,h0,h⟩:=h
 rw [Lies] at h
 obtain ⟨u1,r1,F1,G1,rfl,rfl,h1,h⟩:=h
 rw [Lies] at h
 obtain ⟨u2,r2,F2,G2,rfl,rfl,h2,h⟩:=h
 rw [Lies] at h
 obtain ⟨u3,r3,F3,G3,rfl,rfl,h3,h⟩:=h
 rw [Lies] at h
 obtain ⟨rfl,rfl⟩:=h
 obtain ⟨A0,c0,rfl,_,_⟩:=h0.form
 obtain ⟨A1,c1,rfl,_,_⟩:=h1.form
 obtain ⟨A2,c2,rfl,_,_⟩:=h2.form
 obtain ⟨A3,c3,rfl,_,_⟩:=h3.form
 exact ⟨A0,c0,A1,c1,A2,c2,A3,c3,rfl,⟨_,h0⟩,⟨_,h1⟩,⟨_,h2⟩,⟨_,h3⟩⟩
theorem DEngine.lay {w:World} {x:DEngine} {v0:Value} (h0:In1 w (seqOf 9 DObj.cells x.store.objs) v0) {v1:Value} (h1:In1 w (Go.Proofs.YtgaadpkefncnmaaGreatDoor.names x.store.roots) v1) {v2:Value} (h2:In1 w (seqOf 3 DReal.cells x.store.reals) v2) {v3:Value} (h3:In1 w (seqOf 13 DGoal.cells x.goals) v3):Ins w x.cells [v0,v1,v2,v3]:=by
 rw [x.cells_eq]
 exact ins_cons (h0) (ins_cons (h1) (ins_cons (h2) (ins_cons (h3) (ins_nil _))))
theorem DReg.view {w:World} {x:DReg} {us:List Value} (h:Ins w x.cells us):∃ A1 c1 A4 c4 A5 c5 A6 c6 A7 c7 A8 c8 A9 c9 A10 c10 A11 c11 A12 c12 A13 c13,us = [.int .i64 x.kind,.slice A1 x.obj.name.length c1,.int .i64 x.obj.kind,.int .i64 x.obj.tree.kind,.slice A4 x.obj.tree.data.length c4,.slice A5 x.obj.tree.names.length c5,.slice A6 x.obj.tree.kids.length c6,.slice A7 x.obj.refs.length c7,.slice A8 x.obj.frm.length c8,.slice A9 x.obj.out.length c9,.slice A10 x.real.drv.length c10,.slice A11 x.real.out.length c11,.slice A12 x.real.path.length c12,.slice A13 x.name.length c13]∧In1 w (raw x.obj.name) (.slice A1 x.obj.name.length c1)∧In1 w (raw x.obj.tree.data) (.slice A4 x.obj.tree.data.length c4)∧In1 w (Go.Proofs.YtgaadpkefncnmaaGreatDoor.names x.obj.tree.names) (.slice A5 x.obj.tree.names.length c5)∧In1 w (seqOf 4 T.cells x.obj.tree.kids) (.slice A6 x.obj.tree.kids.length c6)∧In1 w (Go.Proofs.YtgaadpkefncnmaaGreatDoor.names x.obj.refs) (.slice A7 x.obj.refs.length c7)∧In1 w (raw x.obj.frm) (.slice A8 x.obj.frm.length c8)∧In1 w (raw x.obj.out) (.slice A9 x.obj.out.length c9)∧In1 w (raw x.real.drv) (.slice A10 x.real.drv.length c10)∧In1 w (raw x.real.out) (.slice A11 x.real.out.length c11)∧In1 w (raw x.real.path) (.slice A12 x.real.path.length c12)∧In1 w (raw x.name) (.slice A13 x.name.length c13):=by
 obtain ⟨F,h⟩:=h
 rw [x.cells_eq] at h
 rw [Lies] at h
 obtain ⟨u0,r0,F0,G0,rfl,rfl,h0,h⟩:=h
 rw [Lies] at h
 obtain ⟨u1,r1,F1,G1,rfl,rfl,h1,h⟩:=h
 rw [Lies] at h
 obtain ⟨u2,r2,F2,G2,rfl,rfl,h2,h⟩:=h
 rw [Lies] at h
 obtain ⟨u3,r3,F3,G3,rfl,rfl,h3,h⟩:=h
 rw [Lies] at h
 obtain ⟨u4,r4,F4,G4,rfl,rfl,h4,h⟩:=h
 rw [Lies] at h
 obtain ⟨u5,r5,F5,G5,rfl,rfl,h5,h⟩:=h
 rw [Lies] at h
 obtain ⟨u6,r6,F6,G6,rfl,rfl,h6,h⟩:=h
 rw [Lies] at h
 obtain ⟨u7,r7,F7,G7,rfl,rfl,h7,h⟩:=h
 rw [Lies] at h
 obtain ⟨u8,r8,F8,G8,rfl,rfl,h8,h⟩:=h
 rw [Lies] at h
 obtain ⟨u9,r9,F9,G9,rfl,rfl,h9,h⟩:=h
 rw [Lies] at h
 obtain ⟨u10,r10,F10,G10,rfl,rfl,h10,h⟩:=h
 rw [Lies] at h
 obtain ⟨u11,r11,F11,G11,rfl,rfl,h11,h⟩:=h
 rw [Lies] at h
 obtain ⟨u12,r12,F12,G12,rfl,rfl,h12,h⟩:=h
 rw [Lies] at h
 obtain ⟨u13,r13,F13,G13,rfl,rfl,h13,h⟩:=h
 rw [Lies] at h
 obtain ⟨rfl,rfl⟩:=h
 rw [Lie] at h0
 obtain ⟨rfl,rfl⟩:=h0
 obtain ⟨A1,c1,rfl,_,_⟩:=h1.form
 rw [Lie] at h2
 obtain ⟨rfl,rfl⟩:=h2
 rw [Lie] at h3
 obtain ⟨rfl,rfl⟩:=h3
 obtain ⟨A4,c4,rfl,_,_⟩:=h4.form
 obtain ⟨A5,c5,rfl,_,_⟩:=h5.form
 obtain ⟨A6,c6,rfl,_,_⟩:=h6.form
 obtain ⟨A7,c7,rfl,_,_⟩:=h7.form
 obtain ⟨A8,c8,rfl,_,_⟩:=h8.form
 obtain ⟨A9,c9,rfl,_,_⟩:=h9.form
 obtain ⟨A10,c10,rfl,_,_⟩:=h10.form
 obtain ⟨A11,c11,rfl,_,_⟩:=h11.form
 obtain ⟨A12,c12,rfl,_,_⟩:=h12.form
 obtain ⟨A13,c13,rfl,_,_⟩:=h13.form
 exact ⟨A1,c1,A4,c4,A5,c5,A6,c6,A7,c7,A8,c8,A9,c9,A10,c10,A11,c11,A12,c12,A13,c13,rfl,⟨_,h1⟩,⟨_,h4⟩,⟨_,h5⟩,⟨_,h6⟩,⟨_,h7⟩,⟨_,h8⟩,⟨_,h9⟩,⟨_,h10⟩,⟨_,h11⟩,⟨_,h12⟩,⟨_,h13⟩⟩
theorem DReg.lay {w:World} {x:DReg} {v1:Value} (h1:In1 w (raw x.obj.name) v1) {v4:Value} (h4:In1 w (raw x.obj.tree.data) v4) {v5:Value} (h5:In1 w (Go.Proofs.YtgaadpkefncnmaaGreatDoor.names x.obj.tree.names) v5) {v6:Value} (h6:In1 w (seqOf 4 T.cells x.obj.tree.kids) v6) {v7:Value} (h7:In1 w (Go.Proofs.YtgaadpkefncnmaaGreatDoor.names x.obj.refs) v7) {v8:Value} (h8:In1 w (raw x.obj.frm) v8) {v9:Value} (h9:In1 w (raw x.obj.out) v9) {v10:Value} (h10:In1 w (raw x.real.drv) v10) {v11:Value} (h11:In1 w (raw x.real.out) v11) {v12:Value} (h12:In1 w (raw x.real.path) v12) {v13:Value} (h13:In1 w (raw x.name) v13):Ins w x.cells [.int .i64 x.kind,v1,.int .i64 x.obj.kind,.int .i64 x.obj.tree.kind,v4,v5,v6,v7,v8,v9,v10,v11,v12,v13]:=by
 rw [x.cells_eq]
 exact ins_cons (in1_num _ _ _) (ins_cons (h1) (ins_cons (in1_num _ _ _) (ins_cons (in1_num _ _ _) (ins_cons (h4) (ins_cons (h5) (ins_cons (h6) (ins_cons (h7) (ins_cons (h8) (ins_cons (h9) (ins_cons (h10) (ins_cons (h11) (ins_cons (h12) (ins_cons (h13) (ins_nil _))))))))))))))
theorem DJournal.view {w:World} {x:DJournal} {us:List Value} (h:Ins w x.cells us):∃ A0 c0 A1 c1 A2 c2 A3 c3,us = [.slice A0 x.base.objs.length c0,.slice A1 x.base.roots.length c1,.slice A2 x.base.reals.length c2,.slice A3 x.regs.length c3,.int .i64 x.safe]∧In1 w (seqOf 9 DObj.cells x.base.objs) (.slice A0 x.base.objs.length c0)∧In1 w (Go.Proofs.YtgaadpkefncnmaaGreatDoor.names x.base.roots) (.slice A1 x.base.roots.length c1)∧In1 w (seqOf 3 DReal.cells x.base.reals) (.slice A2 x.base.reals.length c2)∧In1 w (seqOf 14 DReg.cells x.regs) (.slice A3 x.regs.length c3):=by
 obtain ⟨F,h⟩:=h
 rw [x.cells_eq] at h
 rw [Lies] at h
 obtain ⟨u0,r0,F0,G0,rfl,rfl,h0,h⟩:=h
 rw [Lies] at h
 obtain ⟨u1,r1,F1,G1,rfl,rfl,h1,h⟩:=h
 rw [Lies] at h
 obtain ⟨u2,r2,F2,G2,rfl,rfl,h2,h⟩:=h
 rw [Lies] at h
 obtain ⟨u3,r3,F3,G3,rfl,rfl,h3,h⟩:=h
 rw [Lies] at h
 obtain ⟨u4,r4,F4,G4,rfl,rfl,h4,h⟩:=h
 rw [Lies] at h
 obtain ⟨rfl,rfl⟩:=h
 obtain ⟨A0,c0,rfl,_,_⟩:=h0.form
 obtain ⟨A1,c1,rfl,_,_⟩:=h1.form
 obtain ⟨A2,c2,rfl,_,_⟩:=h2.form
 obtain ⟨A3,c3,rfl,_,_⟩:=h3.form
 rw [Lie] at h4
 obtain ⟨rfl,rfl⟩:=h4
 exact ⟨A0,c0,A1,c1,A2,c2,A3,c3,rfl,⟨_,h0⟩,⟨_,h1⟩,⟨_,h2⟩,⟨_,h3⟩⟩
theorem DJournal.lay {w:World} {x:DJournal} {v0:Value} (h0:In1 w (seqOf 9 DObj.cells x.base.objs) v0) {v1:Value} (h1:In1 w (Go.Proofs.YtgaadpkefncnmaaGreatDoor.names x.base.roots) v1) {v2:Value} (h2:In1 w (seqOf 3 DReal.cells x.base.reals) v2) {v3:Value} (h3:In1 w (seqOf 14 DReg.cells x.regs) v3):Ins w x.cells [v0,v1,v2,v3,.int .i64 x.safe]:=by
 rw [x.cells_eq]
 exact ins_cons (h0) (ins_cons (h1) (ins_cons (h2) (ins_cons (h3) (ins_cons (in1_num _ _ _) (ins_nil _)))))
theorem DCmd.view {w:World} {x:DCmd} {us:List Value} (h:Ins w x.cells us):∃ A1 c1 A3 c3 A4 c4 A5 c5 A6 c6 A7 c7 A8 c8,us = [.int .i64 x.kind,.slice A1 x.text.length c1,.int .i64 x.tree.kind,.slice A3 x.tree.data.length c3,.slice A4 x.tree.names.length c4,.slice A5 x.tree.kids.length c5,.slice A6 x.name.length c6,.slice A7 x.out.length c7,.slice A8 x.picks.length c8,.int .i64 x.keep]∧In1 w (raw x.text) (.slice A1 x.text.length c1)∧In1 w (raw x.tree.data) (.slice A3 x.tree.data.length c3)∧In1 w (Go.Proofs.YtgaadpkefncnmaaGreatDoor.names x.tree.names) (.slice A4 x.tree.names.length c4)∧In1 w (seqOf 4 T.cells x.tree.kids) (.slice A5 x.tree.kids.length c5)∧In1 w (raw x.name) (.slice A6 x.name.length c6)∧In1 w (raw x.out) (.slice A7 x.out.length c7)∧In1 w (ints x.picks) (.slice A8 x.picks.length c8):=by
 obtain ⟨F,h⟩:=h
 rw [x.cells_eq] at h
 rw [Lies] at h
 obtain ⟨u0,r0,F0,G0,rfl,rfl,h0,h⟩:=h
 rw [Lies] at h
 obtain ⟨u1,r1,F1,G1,rfl,rfl,h1,h⟩:=h
 rw [Lies] at h
 obtain ⟨u2,r2,F2,G2,rfl,rfl,h2,h⟩:=h
 rw [Lies] at h
 obtain ⟨u3,r3,F3,G3,rfl,rfl,h3,h⟩:=h
 rw [Lies] at h
 obtain ⟨u4,r4,F4,G4,rfl,rfl,h4,h⟩:=h
 rw [Lies] at h
 obtain ⟨u5,r5,F5,G5,rfl,rfl,h5,h⟩:=h
 rw [Lies] at h
 obtain ⟨u6,r6,F6,G6,rfl,rfl,h6,h⟩:=h
 rw [Lies] at h
 obtain ⟨u7,r7,F7,G7,rfl,rfl,h7,h⟩:=h
 rw [Lies] at h
 obtain ⟨u8,r8,F8,G8,rfl,rfl,h8,h⟩:=h
 rw [Lies] at h
 obtain ⟨u9,r9,F9,G9,rfl,rfl,h9,h⟩:=h
 rw [Lies] at h
 obtain ⟨rfl,rfl⟩:=h
 rw [Lie] at h0
 obtain ⟨rfl,rfl⟩:=h0
 obtain ⟨A1,c1,rfl,_,_⟩:=h1.form
 rw [Lie] at h2
 obtain ⟨rfl,rfl⟩:=h2
 obtain ⟨A3,c3,rfl,_,_⟩:=h3.form
 obtain ⟨A4,c4,rfl,_,_⟩:=h4.form
 obtain ⟨A5,c5,rfl,_,_⟩:=h5.form
 obtain ⟨A6,c6,rfl,_,_⟩:=h6.form
 obtain ⟨A7,c7,rfl,_,_⟩:=h7.form
 obtain ⟨A8,c8,rfl,_,_⟩:=h8.form
 rw [Lie] at h9
 obtain ⟨rfl,rfl⟩:=h9
 exact ⟨A1,c1,A3,c3,A4,c4,A5,c5,A6,c6,A7,c7,A8,c8,rfl,⟨_,h1⟩,⟨_,h3⟩,⟨_,h4⟩,⟨_,h5⟩,⟨_,h6⟩,⟨_,h7⟩,⟨_,h8⟩⟩
theorem DCmd.lay {w:World} {x:DCmd} {v1:Value} (h1:In1 w (raw x.text) v1) {v3:Value} (h3:In1 w (raw x.tree.data) v3) {v4:Value} (h4:In1 w (Go.Proofs.YtgaadpkefncnmaaGreatDoor.names x.tree.names) v4) {v5:Value} (h5:In1 w (seqOf 4 T.cells x.tree.kids) v5) {v6:Value} (h6:In1 w (raw x.name) v6) {v7:Value} (h7:In1 w (raw x.out) v7) {v8:Value} (h8:In1 w (ints x.picks) v8):Ins w x.cells [.int .i64 x.kind,v1,.int .i64 x.tree.kind,v3,v4,v5,v6,v7,v8,.int .i64 x.keep]:=by
 rw [x.cells_eq]
 exact ins_cons (in1_num _ _ _) (ins_cons (h1) (ins_cons (in1_num _ _ _) (ins_cons (h3) (ins_cons (h4) (ins_cons (h5) (ins_cons (h6) (ins_cons (h7) (ins_cons (h8) (ins_cons (in1_num _ _ _) (ins_nil _))))))))))
theorem DTold.view {w:World} {x:DTold} {us:List Value} (h:Ins w x.cells us):∃ A1 c1,us = [.int .i64 x.code,.slice A1 x.name.length c1]∧In1 w (raw x.name) (.slice A1 x.name.length c1):=by
 obtain ⟨F,h⟩:=h
 rw [x.cells_eq] at h
 rw [Lies] at h
 obtain ⟨u0,r0,F0,G0,rfl,rfl,h0,h⟩:=h
 rw [Lies] at h
 obtain ⟨u1,r1,F1,G1,rfl,rfl,h1,h⟩:=h
 rw [Lies] at h
 obtain ⟨rfl,rfl⟩:=h
 rw [Lie] at h0
 obtain ⟨rfl,rfl⟩:=h0
 obtain ⟨A1,c1,rfl,_,_⟩:=h1.form
 exact ⟨A1,c1,rfl,⟨_,h1⟩⟩
theorem DTold.lay {w:World} {x:DTold} {v1:Value} (h1:In1 w (raw x.name) v1):Ins w x.cells [.int .i64 x.code,v1]:=by
 rw [x.cells_eq]
 exact ins_cons (in1_num _ _ _) (ins_cons (h1) (ins_nil _))
end Go.Proofs.YtgaadpkefncnmaaGreatDoor
/-
  From a datum that comes in to cells: numbers, rows, in general.
-/
namespace Go.Proofs.YtgaadpkefncnmaaGreatDoor
open Go.ChangeShapes Go.WideShapes Go.ChangeAt Go.RowKit
set_option linter.unusedVariables false
/-! ### The numbers of a datum lie in their bounds -/
mutual
def Cel.ok:Cel→Prop
 | .num k n=>(k=.u8→0≤n∧n≤255)∧(k=.i64→-9223372036854775808≤n∧n≤9223372036854775807)
 | .flag _=>True
 | .seq _ _ cs=>oks cs
def oks:List Cel→Prop
 | []=>True
 | c :: cs=>c.ok∧oks cs
end
theorem oks_app (a b:List Cel):oks (a++b)↔oks a∧oks b:=by
 induction a with
 | nil=>simp [oks]
 | cons c a ih=>simp [oks,ih,and_assoc]
theorem oks_cells {α:Type} (f:α→List Cel) (l:List α):oks (cells f l)↔∀ x∈l,oks (f x):=by
 induction l with
 | nil=>simp [cells,oks]
 | cons x l ih=>simp [cells,oks_app,ih]
theorem num_ok_i64 (n:Int):(Cel.num .i64 n).ok↔-9223372036854775808≤n∧n≤9223372036854775807:=by
 rw [Cel.ok]
 constructor
 ·intro h; exact h.2 rfl
 ·intro h; exact ⟨fun e=>(nomatch e),fun _=>h⟩
theorem num_ok_u8 (n:Int):(Cel.num .u8 n).ok↔0≤n∧n≤255:=by
 rw [Cel.ok]
 constructor
 ·intro h; exact h.1 rfl
 ·intro h; exact ⟨fun _=>h,fun e=>(nomatch e)⟩
theorem raw_ok (l:List Int):(raw l).ok↔Byt l:=by
 rw [raw_eq,seqOf,Cel.ok,oks_cells]
 constructor
 ·intro h x hx; have:=h x hx; rw [oks] at this; exact (num_ok_u8 x).1 this.1
 ·intro h x hx; rw [oks]; exact ⟨(num_ok_u8 x).2 (h x hx),trivial⟩
theorem ints_ok (l:List Int):(ints l).ok↔∀ x∈l,-9223372036854775808≤x∧x≤9223372036854775807:=by
 rw [ints_eq,seqOf,Cel.ok,oks_cells]
 constructor
 ·intro h x hx; have:=h x hx; rw [oks] at this; exact (num_ok_i64 x).1 this.1
 ·intro h x hx; rw [oks]; exact ⟨(num_ok_i64 x).2 (h x hx),trivial⟩
theorem seqOf_ok {α:Type} (sz:Nat) (f:α→List Cel) (l:List α):(seqOf sz f l).ok↔∀ x∈l,oks (f x):=by
 rw [seqOf,Cel.ok,oks_cells]
theorem names_ok (ns:List (List Int)):(Go.Proofs.YtgaadpkefncnmaaGreatDoor.names ns).ok↔BytN ns:=by
 rw [Go.Proofs.YtgaadpkefncnmaaGreatDoor.names,seqOf_ok]
 constructor
 ·intro h n hn; have:=h n hn; rw [oks] at this; exact (raw_ok n).1 this.1
 ·intro h n hn; rw [oks]; exact ⟨(raw_ok n).2 (h n hn),trivial⟩
/-! ### Rows -/
theorem list_of' {α:Type} {R:Nat→α→Prop} : ∀ (n:Nat),(∀ i,i < n→∃ x,R i x)→∃ l:List α,l.length=n∧∀ i x,l[i]? = some x→R i x
 | 0,_=>⟨[],rfl,fun i x h=>by simp at h⟩
 | n + 1,h=>by
   obtain ⟨l,hl,hr⟩:=list_of' n (fun i hi=>h i (by omega))
   obtain ⟨x,hx⟩:=h n (by omega)
   refine ⟨l++[x],by simp [hl],fun i y hy=>?_⟩
   by_cases hi:i < n
   ·rw [List.getElem?_append_left (by omega)] at hy
    exact hr i y hy
   ·rw [List.getElem?_append_right (by omega)] at hy
    have:i - l.length=0:=by
     have:=(List.getElem?_eq_some_iff.1 hy).1
     simp at this
     omega
    rw [this] at hy
    simp at hy
    subst hy
    obtain rfl:i=n:=by omega
    exact hx
theorem spot_of' {W:World} {a:Addr} {v:Value} (h:W.cell? (a.add 0)=some v):∃ b off,a=⟨b,off,none⟩∧b < W.heap.size:=by
 obtain ⟨b,off,spot⟩:=a
 have hs:spot=none:=by simpa [Addr.add] using World.cell?_spot h
 subst hs
 have:=World.block_lt_of_cell? W _ h
 exact ⟨b,off,rfl,by simpa [Addr.add] using this⟩
theorem range_join {α:Type} {W:World} {b off n:Nat} (hn:0 < n):∀ (l:List (List Value × α)) (i0:Nat),(∀ i y,l[i]? = some y→y.1.length=n∧∀ j u,y.1[j]? = some u→W.cell? ⟨b,off + ((i0 + i) * n + j),none⟩=some u) →
  ∀ j u,(l.flatMap (·.1))[j]? = some u→W.cell? ⟨b,off + (i0 * n + j),none⟩=some u
 | [],i0,_,j,u,hu=>by simp at hu
 | y :: l,i0,h,j,u,hu=>by
   obtain ⟨h1,h2⟩:=h 0 y rfl
   rw [List.flatMap_cons] at hu
   by_cases hj:j < n
   ·rw [List.getElem?_append_left (by omega)] at hu
    simpa using h2 j u hu
   ·rw [List.getElem?_append_right (by omega),h1] at hu
    have:=range_join hn l (i0 + 1) (fun i z hz=>by
     have:=h (i + 1) z (by simpa using hz)
     rw [show i0 + 1 + i=i0 + (i + 1) by omega]
     exact this) (j - n) u hu
    rw [show i0 * n + j=(i0 + 1) * n + (j - n) by rw [Nat.add_mul]; omega]
    exact this
theorem lies_join {α:Type} {W:World} {f:α→List Cel} : ∀ (l:List (List Value × α)),(∀ y∈l,∃ F,Lies W (f y.2) y.1 F)→∃ F,Lies W (cells f (l.map (·.2))) (l.flatMap (·.1)) F
 | [],_=>⟨[],lies_nil W⟩
 | y :: l,h=>by
   obtain ⟨F1,h1⟩:=h y (List.mem_cons_self ..)
   obtain ⟨F2,h2⟩:=lies_join l fun z hz=>h z (List.mem_cons_of_mem _ hz)
   exact ⟨F1++F2,h1.append h2⟩
section
variable {H:Type} {enc:TypeId × Value→H} {W:World}
theorem row_of_trod {α:Type} {ty ety:TypeId} {n:Nat} {f:α→List Cel} (hu:Program.underlying Tryz.prog ty=some (.slice ety)) (hC:Program.cellsOf Tryz.prog ety=n) (h64:n≤64) (hn:0 < n) {fuel:Nat}
  (hel:∀ m,m < fuel→∀ (cs:List Value) (x:DataW H × List MemPlace),DataW.trod enc Tryz.prog W 0 (fun _=>true) true m ety cs=some x→∃ a:α,oks (f a)∧∃ F,Lies W (f a) cs F)
  {v:Value} {x:DataW H × List MemPlace} (h:DataW.trod enc Tryz.prog W 0 (fun _=>true) true fuel ty [v]=some x):∃ l:List α,(seqOf n f l).ok∧∃ F,Lie W (seqOf n f l) v F:=by
 rcases DataW.trod_slice hu h with ⟨hcs,_⟩ | ⟨a,len,cap,elems,rest,m,hfm,hcs,_,_,hl,hm,hlen,hel2,_,_⟩
 ·obtain rfl:=List.singleton_inj.1 hcs
  refine ⟨[],(seqOf_ok _ _ _).2 (fun x hx=>by cases hx),[],?_⟩
  rw [Lie]
  refine ⟨h64,[],[],⟨none,0,rfl,Nat.le_refl _,Nat.zero_le _,by simp,fun h=>absurd h (by simp)⟩,lies_nil W,?_⟩
  simp [blk_none]
 ·obtain rfl:=List.singleton_inj.1 hcs
  rw [hC] at hel2
  obtain ⟨l,hll,hlr⟩:=list_of' (R:=fun i (y:List Value × α)=>(y.1.length=n∧∀ j u,y.1[j]? = some u→W.cell? ((a.add (i * n)).add j)=some u)∧oks (f y.2)∧∃ F,Lies W (f y.2) y.1 F) len (fun i hi=>by
   have h1:=hel2 i hi
   rw [List.getElem?_eq_getElem (by omega)] at h1
   obtain ⟨cs',h2,h3⟩:=Option.bind_eq_some_iff.1 h1
   obtain ⟨_,hcl,hat⟩:=World.cells?_some h2
   obtain ⟨a',h4,h5⟩:=hel m (by omega) _ _ h3
   exact ⟨(cs',a'),⟨hcl,fun j u hu=>(hat j (by rw [← hcl]; exact (List.getElem?_eq_some_iff.1 hu).1)).trans hu⟩,h4,h5⟩)
  have hmem:∀ y∈l,oks (f y.2)∧∃ F,Lies W (f y.2) y.1 F:=fun y hy=>by
   obtain ⟨i,hi⟩:=List.getElem?_of_mem hy
   exact (hlr i y hi).2
  obtain ⟨F,hF⟩:=lies_join l fun y hy=>(hmem y hy).2
  have hsum:(l.flatMap (·.1)).length=len * n:=by
   have:∀ k:List (List Value × α),(∀ y∈k,y.1.length=n)→(k.flatMap (·.1)).length=k.length * n:=fun k=>by
    induction k with
    | nil=>intro _; simp
    | cons y k ih=>intro h; rw [List.flatMap_cons,List.length_append,h y (List.mem_cons_self ..),ih fun z hz=>h z (List.mem_cons_of_mem _ hz),List.length_cons,Nat.add_mul]; omega
   rw [this l fun y hy=>by obtain ⟨i,hi⟩:=List.getElem?_of_mem hy; exact (hlr i y hi).1.1,hll]
  refine ⟨l.map (·.2),?_,blk (.slice (some a) len cap)++F,?_⟩
  ·rw [seqOf_ok]
   intro x hx
   obtain ⟨y,hy,rfl⟩:=List.mem_map.1 hx
   exact (hmem y hy).1
  ·rw [Lie,List.length_map,hll]
   refine ⟨h64,l.flatMap (·.1),F,⟨some a,cap,rfl,hl,hm,hsum,fun hp=>?_⟩,hF,rfl⟩
   have h0:=(hlr 0 l[0] (List.getElem?_eq_getElem (by omega))).1
   obtain ⟨b,off,rfl,hb⟩:=spot_of' (v:=l[0].1[0]'(by omega)) (by
    have:=h0.2 0 _ (List.getElem?_eq_getElem (by omega))
    rw [Nat.zero_mul] at this
    simpa [Addr.add] using this)
   refine ⟨b,off,rfl,hb,fun j u hu=>?_⟩
   have:=range_join (W:=W) (b:=b) (off:=off) hn l 0 (fun i y hy=>⟨(hlr i y hy).1.1,fun j u hu=>by
    have h1:=(hlr i y hy).1.2 j u hu
    rw [Go.Deep.add_add,Addr.add_lit] at h1
    rw [Nat.zero_add]
    exact h1⟩) j u hu
   rw [Nat.zero_mul,Nat.zero_add] at this
   exact this
theorem raw_of_trod {fuel:Nat} {v:Value} {x:DataW H × List MemPlace} (h:DataW.trod enc Tryz.prog W 0 (fun _=>true) true fuel 39 [v]=some x):∃ l:List Int,(raw l).ok∧∃ F,Lie W (raw l) v F:=by
 obtain ⟨l,h1,F,h2⟩:=row_of_trod (α:=Int) (f:=fun x=>[Cel.num .u8 x]) (n:=1) Tryz.underlying39 (by kernel_rfl) (by decide) (by decide) (fun m _ cs x hx=>by
  obtain ⟨k,rfl,_,hw⟩:=DataW.trod_int Tryz.underlying5 hx
  exact ⟨k,by rw [oks]; exact ⟨(num_ok_u8 k).2 (u8_of_wf hw),trivial⟩,[],lies_one (lie_num _ _ _)⟩) h
 exact ⟨l,by rw [raw_eq]; exact h1,F,by rw [raw_eq]; exact h2⟩
end
end Go.Proofs.YtgaadpkefncnmaaGreatDoor
/-
  placesByStart: for each four bytes, the places of the names that begin so.
-/
namespace Go.Proofs.YtgaadpkefncnmaaGreatDoor
open Go.RowKit Go.Maps Go.ChangeShapes Go.WideMaps
set_option linter.unusedVariables false
def plc (ns:List (List Int)) (s:List Int) (k:Nat):List Int:=((List.range k).filter fun j=>decide ((ns.getD j []).take 4=s)).map Int.ofNat
theorem plc_next (ns:List (List Int)) (s:List Int) (k:Nat):plc ns s (k + 1)=if (ns.getD k []).take 4=s then plc ns s k++[(k:Int)] else plc ns s k:=by
 unfold plc
 rw [List.range_succ,List.filter_append,List.map_append]
 by_cases h:(ns.getD k []).take 4=s
 ·rw [if_pos h,List.filter_cons_of_pos (by simpa using h)]
  simp
 ·rw [if_neg h,List.filter_cons_of_neg (by simpa using h)]
  simp
theorem plc_mem {ns:List (List Int)} {s:List Int} {k:Nat} {z:Int} (h:z∈plc ns s k):∃ j:Nat,z=(j:Int)∧j < k∧(ns.getD j []).take 4=s:=by
 unfold plc at h
 obtain ⟨j,hj,rfl⟩:=List.mem_map.1 h
 obtain ⟨h1,h2⟩:=List.mem_filter.1 hj
 exact ⟨j,rfl,List.mem_range.1 h1,by simpa using h2⟩
theorem mem_plc {ns:List (List Int)} {s:List Int} {k j:Nat} (hj:j < k) (h:(ns.getD j []).take 4=s):(j:Int)∈plc ns s k :=
 List.mem_map.2 ⟨j,List.mem_filter.2 ⟨List.mem_range.2 hj,by simpa using h⟩,rfl⟩
/-- The key of some bytes. -/
def keyS (s:List Int):Lit:=.string (strOfNums s).data.toList
theorem keyS_inj {a b:List Int} (ha:Byt a) (hb:Byt b) (h:keyS a=keyS b):a=b:=by
 unfold keyS at h
 injection h with h
 refine str_inj ha hb ?_
 rw [ByteArray.toList_eq,ByteArray.toList_eq,h]
def rowLit {H:Type} (zs:List Int):DataW H:=if zs = [] then .nil else .slice (lits .i64 zs) []
theorem lits_inj {H:Type} {a b:List Int} (h:lits (H:=H) .i64 a=lits .i64 b):a=b:=by
 unfold lits at h
 exact (List.map_inj_right (fun x y hxy=>by injection hxy with h1; injection h1)).1 h
theorem rowLit_inj {H:Type} {w:World} {base:Nat} {e:TypeId} {v:Value} {zs ys:List Int} (ho:w.ownsInts base e .i64 v zs) (h:rowDatum (H:=H) .i64 v zs=rowLit ys):zs=ys:=by
 unfold rowLit at h
 rcases ho.datum (H:=H) with ⟨h1,rfl⟩ | h1
 ·rw [h1] at h
  by_cases hy:ys = []
  ·exact hy.symm
  ·rw [if_neg hy] at h; cases h
 ·rw [h1] at h
  by_cases hy:ys = []
  ·rw [if_pos hy] at h; cases h
  ·rw [if_neg hy] at h
   injection h with h2
   exact lits_inj h2
/-- What the map holds behind k names. -/
structure Grp {H:Type} (D:DataW H) (ns:List (List Int)) (k:Nat):Prop where
 map:IsMap D
 at_:∀ s:List Int,Byt s→D.atKey (keyS s) .nil=rowLit (plc ns s k)
theorem Grp.nil {H:Type} (ns:List (List Int)):Grp (.map []:DataW H) ns 0:=⟨isMap_empty,fun s _=>rfl⟩
theorem Grp.row {H:Type} {D:DataW H} {ns:List (List Int)} {k:Nat} (h:Grp D ns k) {s:List Int} (hs:Byt s) {w:World} {base:Nat} {e:TypeId} {v:Value} {zs:List Int} (ho:w.ownsInts base e .i64 v zs)
  (hat:D.atKey (keyS s) .nil=rowDatum .i64 v zs):zs=plc ns s k:=rowLit_inj ho (hat.symm.trans (h.at_ s hs))
theorem Grp.step {H:Type} {D:DataW H} {ns:List (List Int)} {k:Nat} (h:Grp D ns k) {s:List Int} (hs:Byt s) (hk:(ns.getD k []).take 4=s):Grp (D.put (keyS s) (.slice (lits .i64 (plc ns s k++[(k:Int)])) [])) ns (k + 1):=by
 refine ⟨h.map.put _ _,fun s' hs'=>?_⟩
 rw [plc_next]
 by_cases e:s' = s
 ·subst e
  rw [atKey_put_same h.map (show WideAt.IsKeyLit (keyS s') from trivial),if_pos hk,rowLit,if_neg (by simp)]
 ·rw [atKey_put_other (fun h'=>e (keyS_inj hs' hs h')),if_neg (fun h'=>e (h'.symm.trans hk)),h.at_ s' hs']
theorem strLaw:Keyed Tryz.prog 9:=string_keyed Tryz.underlying9
theorem intsInfo:(Tryz.prog.info? 3).map (fun i=>(i.zero,i.size,i.bytes))=some (some (.int .i64 0),1,8):=by kernel_rfl
theorem intsZero (w:World):(zeroValue 242).run Tryz.prog w=.ok (.slice none 0 0) w:=by kernel_rfl
theorem keyOf_s {s:List Int} (h:s.length≤100):keyOf Tryz.prog 9 (.string (strOfNums s))=some (keyS s):=by
 refine keyOf_string_mk Tryz.underlying9 ?_
 rw [strOfNums_size]
 unfold maxLen
 omega
end Go.Proofs.YtgaadpkefncnmaaGreatDoor
/-
  Sets of names: the program.
-/
namespace Go.Proofs.YtgaadpkefncnmaaGreatDoor
open Go.RowKit
set_option linter.unusedVariables false
set_option linter.unusedSimpArgs false
/-- A map, or no map: a function. -/
def MapO (w:World) (v:Value) (f:List Int→Option Value):Prop:=(v=.map none∧∀ nm,f nm=none)∨∃ b n c,v=.map (some b)∧MapV w b n f c
theorem MapV.o {w:World} {b n c:Nat} {f:List Int→Option Value} (h:MapV w b n f c):MapO w (.map (some b)) f:=Or.inr ⟨b,n,c,rfl,h⟩
theorem MapO.nil (w:World):MapO w (.map none) (fun _=>none):=Or.inl ⟨rfl,fun _=>rfl⟩
theorem MapO.look {w:World} {v:Value} {f:List Int→Option Value} (h:MapO w v f) {t e:TypeId} (ht:Tryz.prog.underlying t=some (.map 9 e)) {z:Value} (hz:(zeroValue e).run Tryz.prog w=.ok z w) {nm:List Int} (hB:Byt nm) (hl:nm.length≤1099511627776) :
  (Instr.lookup t v (.string (strOfNums nm)) true).run Tryz.prog w=.ok (.tuple #[(f nm).getD z,.bool (f nm).isSome]) w:=by
 rcases h with ⟨rfl,h0⟩ | ⟨b,n,c,rfl,h⟩
 ·rw [h0]; exact nilMap_look ht hz hl
 ·exact h.look ht hz hB hl
theorem MapO.look1 {w:World} {v:Value} {f:List Int→Option Value} (h:MapO w v f) {t e:TypeId} (ht:Tryz.prog.underlying t=some (.map 9 e)) {z:Value} (hz:(zeroValue e).run Tryz.prog w=.ok z w) {nm:List Int} (hB:Byt nm) (hl:nm.length≤1099511627776) :
  (Instr.lookup t v (.string (strOfNums nm)) false).run Tryz.prog w=.ok ((f nm).getD z) w:=by
 rcases h with ⟨rfl,h0⟩ | ⟨b,n,c,rfl,h⟩
 ·rw [h0]; exact nilMap_look1 ht hz hl
 ·exact h.look1 ht hz hB hl
theorem MapO.step {w w' : World} {v:Value} {f:List Int→Option Value} (h:MapO w v f) (hb:Below w.heap.size w w'):MapO w' v f:=by
 rcases h with h | ⟨b,n,c,rfl,h⟩
 ·exact Or.inl h
 ·exact Or.inr ⟨b,n,c,rfl,h.step hb⟩
theorem zeroBool (w:World):(zeroValue 4).run Tryz.prog w=.ok (.bool false) w:=by kernel_rfl
def ShapeO (f:List Int→Option Value):Prop:=∀ n x,f n=some x→∃ (A0:Option Addr) (n0 c0:Nat) (k1 k2:Int) (A3:Option Addr) (n3 c3:Nat) (A4:Option Addr) (n4 c4:Nat) (A5:Option Addr) (n5 c5:Nat) (A6:Option Addr) (n6 c6:Nat) (A7:Option Addr) (n7 c7:Nat) (A8:Option Addr) (n8 c8:Nat),x=.agg #[.slice A0 n0 c0,.int .i64 k1,.int .i64 k2,.slice A3 n3 c3,.slice A4 n4 c4,.slice A5 n5 c5,.slice A6 n6 c6,.slice A7 n7 c7,.slice A8 n8 c8]
def zObj:Value:=.agg #[.slice none 0 0,.int .i64 0,.int .i64 0,.slice none 0 0,.slice none 0 0,.slice none 0 0,.slice none 0 0,.slice none 0 0,.slice none 0 0]
theorem ShapeO.getD {f:List Int→Option Value} (h:ShapeO f) (n:List Int):∃ (A0:Option Addr) (n0 c0:Nat) (k1 k2:Int) (A3:Option Addr) (n3 c3:Nat) (A4:Option Addr) (n4 c4:Nat) (A5:Option Addr) (n5 c5:Nat) (A6:Option Addr) (n6 c6:Nat) (A7:Option Addr) (n7 c7:Nat) (A8:Option Addr) (n8 c8:Nat),(f n).getD zObj=.agg #[.slice A0 n0 c0,.int .i64 k1,.int .i64 k2,.slice A3 n3 c3,.slice A4 n4 c4,.slice A5 n5 c5,.slice A6 n6 c6,.slice A7 n7 c7,.slice A8 n8 c8]:=by
 cases hf:f n with
 | none=>exact ⟨_,_,_,_,_,_,_,_,_,_,_,_,_,_,_,_,_,_,_,_,_,_,_,rfl⟩
 | some x=>exact h n x hf
theorem zeroObj (w:World):(zeroValue 49).run Tryz.prog w=.ok zObj w:=by kernel_rfl
set_option maxRecDepth 20000 in
set_option maxHeartbeats 1600000 in
theorem hasB (mv:Value) (f:List Int→Option Value) (n:List Int) (hB:Byt n) (v:Value) (w:World) (hm:MapO w mv f) (hv:Rd w v (bs n)) (hl:n.length≤1099511627776) :
  Calls Tryz.prog 142 #[mv,v] w fun e w'=>e=.returned (.bool (f n).isSome)∧w' = w:=by
 have hcv:=conv_rd (P:=Tryz.prog) Tryz.underlying39 Tryz.underlying5 Tryz.underlying9 hv
 have hlk:=hm.look (t:=79) Tryz.underlying79 (zeroBool w) hB hl
 generalize (f n).getD _=V at *
 generalize (f n).isSome=R at *
 clear hm hv
 go_enter Tryz.func142,Tryz.ntmps142
 go_wp2_with fail
 go_ret
 exact ⟨rfl,rfl⟩
set_option maxRecDepth 20000 in
set_option maxHeartbeats 1600000 in
theorem hasO (mv:Value) (f:List Int→Option Value) (n:List Int) (hB:Byt n) (v:Value) (w:World) (hm:MapO w mv f) (hv:Rd w v (bs n)) (hl:n.length≤1099511627776) (hsh:ShapeO f) :
  Calls Tryz.prog 84 #[mv,v] w fun e w'=>e=.returned (.bool (f n).isSome)∧Below w.heap.size w w':=by
 have hcv:=conv_rd (P:=Tryz.prog) Tryz.underlying39 Tryz.underlying5 Tryz.underlying9 hv
 have hlk:=hm.look (t:=83) Tryz.underlying83 (zeroObj w) hB hl
 obtain ⟨A0,n0,c0,k1,k2,A3,n3,c3,A4,n4,c4,A5,n5,c5,A6,n6,c6,A7,n7,c7,A8,n8,c8,hV⟩:=hsh.getD n
 rw [hV] at hlk
 generalize (f n).isSome=R at *
 clear hm hv hV
 go_enter Tryz.func84,Tryz.ntmps84
 go_wp2_with fail
 go_ret
 exact ⟨rfl,(Below.refl _ _).alloc (Nat.le_refl _) _⟩
set_option maxRecDepth 20000 in
set_option maxHeartbeats 1600000 in
theorem hasAllO (mv:Value) (f:List Int→Option Value) (ns:List (List Int)) (hB:BytN ns) (v:Value) (w:World) (hm:MapO w mv f) (hv:RdN w v ns) (hl:∀ n∈ns,n.length≤1048576) (hn:ns.length≤1048576) (hsh:ShapeO f) :
  Calls Tryz.prog 120 #[mv,v] w fun e w'=>e=.returned (.bool (ns.all fun n=>(f n).isSome))∧Below w.heap.size w w':=by
 obtain ⟨R,hR⟩:∃ R,(ns.all fun n=>(f n).isSome)=R:=⟨_,rfl⟩
 rw [hR]
 obtain ⟨A,c,rfl,hc1,hc2⟩:=names_len hv
 obtain ⟨N,hN⟩:∃ N,ns.length=N:=⟨_,rfl⟩
 rw [hN] at hc1 hv hn ⊢
 unfold maxLen at hc2
 have HR:=hide hR
 have HNL:=hide hN
 have HNN:=hide hv
 have HLL:=hide hl
 have HBB:=hide hB
 have HM:=hide hm
 have HSH:=hide hsh
 clear hsh hR hN hv hl hB hm
 go_enter Tryz.func120,Tryz.ntmps120
 go_wp2
 go_loopw [9] (fun i wr=>∃ j:Nat,j≤N∧i=.int .i64 j∧Hid (∀ m,m < j→(f (ns.getD m [])).isSome=true)∧Hid (Below w.heap.size w wr)) (fun i _=>N - (intOf i).toNat)
 case atStart=>exact ⟨0,Nat.zero_le _,rfl,hide (fun m hm=>by omega),hide (Below.refl _ _)⟩
 case round =>
  obtain ⟨j,hj,rfl,HXX,HW⟩:=hrel
  by_cases hlt:j < N
  ·have hjn:j < ns.length:=by rw [HNL.out]; exact hlt
   obtain ⟨b,off,x,hA',hblt,cx,rx⟩:=HNN.out.get hjn
   subst hA'
   have hmj:ns.getD j []∈ns:=by simp [List.getD,List.getElem?_eq_getElem hjn]
   have hlj:=HLL.out _ hmj
   have hbj:=HBB.out _ hmj
   have k1:(j:Int) < (N:Int):=by omega
   have k0:(0:Int)≤(j:Int):=by omega
   have k2_:(j:Int).toNat=j:=by omega
   have q1:=(HW.out.cell (p:=⟨b,off + j,none⟩) hblt).trans cx
   have HC:=hide (hasO mv f _ hbj x wr (HM.out.step HW.out) (rx.below HW.out) (by omega) HSH.out)
   obtain ⟨q,hq⟩:∃ q,ns.getD j []=q:=⟨_,rfl⟩
   rw [hq] at HC
   have HQ:=hide hq
   clear hq hmj hlj hbj rx cx
   obtain ⟨Z,hZ⟩:∃ Z,(f q).isSome=Z:=⟨_,rfl⟩
   rw [hZ] at HC
   have HZ:=hide hZ
   clear hZ
   cases Z with
   | true =>
     go_wp2_with fail
     refine HC.out.mono ?_
     rintro e w2 ⟨rfl,b2⟩
     have HB2:=hide (HW.out.trans (b2.mono HW.out.size))
     clear b2 q1
     go_wp2_with fail
     go_roundw
     case rel=>exact ⟨j + 1,by omega,by go_num,hide (fun m hm=>by
      rcases Nat.lt_or_ge m j with h | h
      ·exact HXX.out m h
      ·obtain rfl:m=j:=by omega
       rw [HQ.out]; exact HZ.out),HB2⟩
     case measure=>simp [intOf]; omega
   | false =>
     have HF:=hide (show R=false by
      rw [← HR.out,List.all_eq_false]
      exact ⟨ns.getD j [],by simp [List.getD,List.getElem?_eq_getElem hjn],by rw [HQ.out,HZ.out]; simp⟩)
     go_wp2_with fail
     refine HC.out.mono ?_
     rintro e w2 ⟨rfl,b2⟩
     have HB2:=hide (HW.out.trans (b2.mono HW.out.size))
     clear b2 q1
     go_wp2_with fail
     go_ret
     exact ⟨ret_bool HF.out.symm,HB2.out⟩
  ·obtain rfl:j=N:=by omega
   have HIT:=hide (show R=true by
    rw [← HR.out,List.all_eq_true]
    intro x hx
    obtain ⟨m,hm,rfl⟩:=List.getElem_of_mem hx
    have:=HXX.out m (by rw [← HNL.out]; exact hm)
    simpa [List.getD,List.getElem?_eq_getElem hm] using this)
   go_wp2
   go_ret
   exact ⟨ret_bool HIT.out.symm,HW.out⟩
set_option maxRecDepth 20000 in
set_option maxHeartbeats 1600000 in
theorem addRoot (B k:Nat) (f:List Int→Option Value) (c:Nat) (n:List Int) (hB:Byt n) (hl:n.length≤1048576) (v:Value) (w:World) (hm:MapV w B k f c) (hk:k≤1048576) (hv:Rd w v (bs n)) :
  Calls Tryz.prog 86 #[.agg #[.map (some B)],v] w fun e w'=>e=.returned (.tuple #[])∧∃ c',MapV w' B (k + 1) (upd f n (some (.bool true))) c'∧w.grownBy w' (some B):=by
 obtain ⟨wa,hwa⟩:∃ wa,w.alloc (.cells #[.map (some B)] 81)=wa:=⟨_,rfl⟩
 have ba:Below w.heap.size w wa:=by rw [← hwa]; exact (Below.refl _ _).alloc (Nat.le_refl _) _
 have bx:Box wa w.heap.size 81 [.map (some B)]:=by rw [← hwa]; exact Box.new w _ _
 have x0:=bx.cell (j:=0) rfl
 have hma:=hm.step ba
 have hcv:=conv_rd (P:=Tryz.prog) Tryz.underlying39 Tryz.underlying5 Tryz.underlying9 (hv.below ba)
 have HG:=hide (show w.grownBy wa (some B) from ⟨ba.os,ba.tape,ba.output,ba.size,fun k hk _=>ba.block k hk⟩)
 have HLT:=hide hm.lt
 clear hm hv bx ba
 go_enter Tryz.func86,Tryz.ntmps86
 go_wp2_with (at_mapUpdate; refine wpList_putV _ rfl _ _ _ 79 rfl 4 Tryz.underlying79 B k f c rfl hma (by omega) n hB hl _ rfl rfl ?_; intro w2 hm2 hg2; have HM2:=hide (show ∃ c',MapV w2 B (k + 1) (upd f n (some (.bool true))) c' from ⟨_,hm2⟩); clear hm2)
 try go_wp2_with fail
 refine bodyPost_end (results_none rfl _ _ _) rfl ?_
 first | exact ⟨rfl,HM2.out,HG.out.andThen hg2 (fun j hj=>Or.inr hj)⟩ | exact ⟨rfl,HM2.out.elim fun c' h=>⟨c',h,HG.out.andThen hg2 (fun j hj=>Or.inr hj)⟩⟩
end Go.Proofs.YtgaadpkefncnmaaGreatDoor
/-
  The program's PutText.
-/
namespace Go.Proofs.YtgaadpkefncnmaaGreatDoor
open Go.RowKit
set_option maxHeartbeats 400000 in
theorem implPutText (l:List Int) (v:Value) (t:List Int) (u:Value) (w:World) (hv:Rd w v (bs l)) (hu:Rd w u (bs t)) (hl:l.length≤1099511627776) :
  Calls Tryz.prog 221 #[v,u] w fun e w'=>∃ v',e=.returned v'∧Own 5 w.heap.size w'.heap.size w' v' (bs (putText l t))∧Below w.heap.size w w':=by
 have HV:=hide hv
 have HU:=hide hu
 clear hv hu
 go_enter Tryz.func221,Tryz.ntmps221
 go_wp2_with fail
 refine (clone l _ w HV.out (by omega)).mono ?_
 rintro e w1 ⟨v1,rfl,own1,b1⟩
 go_wp2_with fail
 refine (appendText l v1 t u w.heap.size w1 w own1 HU.out rfl b1 (by omega)).mono ?_
 rintro e w2 ⟨v2,rfl,own2,b2⟩
 go_wp2_with fail
 go_ret
 exact ⟨_,rfl,Own.of own2 (by rw [bs_length]),b1.trans b2⟩
end Go.Proofs.YtgaadpkefncnmaaGreatDoor
/-
  The laws' copies of trees.
-/
namespace Go.Proofs.YtgaadpkefncnmaaGreatDoor
open Go.RowKit
set_option linter.unusedVariables false
def Q.cells (q:Q):List Value:=[.int .i64 q.k,q.d,q.n,q.c]
def qcells:List Q→List Value
 | []=>[]
 | q :: r=>q.cells++qcells r
theorem qcells_len (qs:List Q):(qcells qs).length=4 * qs.length:=by
 induction qs with
 | nil=>rfl
 | cons q r ih=>rw [qcells,List.length_append,ih]; simp [Q.cells]; omega
theorem qcells_get:∀ {qs:List Q} {i:Nat} {q:Q},qs[i]? = some q→(qcells qs)[4 * i]? = some (.int .i64 q.k)∧(qcells qs)[4 * i + 1]? = some q.d∧(qcells qs)[4 * i + 2]? = some q.n∧(qcells qs)[4 * i + 3]? = some q.c
 | [],i,q,h=>by simp at h
 | q0 :: r,0,q,h=>by
   simp at h
   subst h
   exact ⟨rfl,rfl,rfl,rfl⟩
 | q0 :: r,i + 1,q,h=>by
   have:=qcells_get (qs:=r) (i:=i) (q:=q) (by simpa using h)
   have e:∀ j,(qcells (q0 :: r))[4 * (i + 1) + j]? = (qcells r)[4 * i + j]?:=fun j=>by
    rw [qcells,List.getElem?_append_right (by simp [Q.cells]; omega)]
    congr 1
    simp [Q.cells]
    omega
   exact ⟨(e 0).trans this.1,(e 1).trans this.2.1,(e 2).trans this.2.2.1,(e 3).trans this.2.2.2⟩
def q0:Q:=⟨0,.slice none 0 0,.slice none 0 0,.slice none 0 0⟩
/-- A slice of trees' cells in a block of its own. -/
def Own4 (lo hi:Nat) (w:World) (v:Value) (qs:List Q):Prop:=w.ownsRow lo 47 4 v qs.length (qcells qs)∧hi≤w.heap.size∧∀ g,v.ownBlock=some g→g < hi
theorem Own4.rd {lo hi:Nat} {w:World} {v:Value} {qs:List Q} (h:Own4 lo hi w v qs):Rd4 w v qs:=by
 obtain ⟨h1,h2,h3⟩:=h
 rcases id h1.2 with ⟨rfl,hn⟩ | ⟨g,cap,cur,rfl,hb,hg,hnc,hcm,hcs,ht⟩
 ·have hx:qs = []:=List.eq_nil_of_length_eq_zero hn
  subst hx
  exact ⟨none,0,rfl,Nat.le_refl _,Nat.zero_le _,fun h=>by simp at h⟩
 ·refine ⟨_,cap,rfl,hnc,hcm,fun hp=>⟨g,0,rfl,Nat.lt_of_lt_of_le (h3 g rfl) h2,fun i q hq=>?_⟩⟩
  have hi:i < qs.length:=(List.getElem?_eq_some_iff.1 hq).1
  obtain ⟨e0,e1,e2,e3⟩:=qcells_get hq
  simp only [Nat.zero_add]
  exact ⟨(h1.cellAt (4 * i) (by omega)).trans e0,(h1.cellAt (4 * i + 1) (by omega)).trans e1,(h1.cellAt (4 * i + 2) (by omega)).trans e2,(h1.cellAt (4 * i + 3) (by omega)).trans e3⟩
theorem Own4.out {lo hi lo' hi' : Nat} {w w' : World} {v:Value} {qs:List Q} (h:Own4 lo hi w v qs) (ho:Outside lo' hi' w w') (hd:hi≤lo'∨hi'≤lo):Own4 lo hi w' v qs:=by
 obtain ⟨h1,h2,h3⟩:=h
 refine ⟨⟨h1.1,?_⟩,Nat.le_trans h2 ho.size,h3⟩
 rcases h1.2 with hn | ⟨g,cap,cur,rfl,hbg,hg,rest⟩
 ·exact .inl hn
 ·have hlt:=h3 g rfl
  exact .inr ⟨g,cap,cur,rfl,hbg,by rw [ho.block g (by omega) (by omega)]; exact hg,rest⟩
mutual
/-- A tree all of whose blocks are its own, one behind the other. -/
def TOwn (w:World):T→Nat→Q→Nat→Prop
 | .node k d ns ks,lo,q,hi=>q.k=k∧∃ m1 m2 m3 qs,lo≤m1∧m2≤m3∧Own 5 lo m1 w q.d (bs d)∧OwnN m1 m2 w q.n ns∧Own4 m2 m3 w q.c qs∧TChain w ks m3 qs hi
def TChain (w:World):List T→Nat→List Q→Nat→Prop
 | [],lo,qs,hi=>qs = []∧lo≤hi
 | t :: ts,lo,qs,hi=>∃ q r m,qs=q :: r∧TOwn w t lo q m∧lo≤m∧TChain w ts m r hi
end
theorem TChain.le {w:World} : ∀ {ts:List T} {lo:Nat} {qs:List Q} {hi:Nat},TChain w ts lo qs hi→lo≤hi
 | [],lo,qs,hi,h=>by rw [TChain] at h; exact h.2
 | t :: ts,lo,qs,hi,h=>by
   rw [TChain] at h
   obtain ⟨q,r,m,_,_,hm,h⟩:=h
   exact Nat.le_trans hm h.le
theorem TChain.len {w:World} : ∀ {ts:List T} {lo:Nat} {qs:List Q} {hi:Nat},TChain w ts lo qs hi→qs.length=ts.length
 | [],lo,qs,hi,h=>by rw [TChain] at h; rw [h.1]; rfl
 | t :: ts,lo,qs,hi,h=>by
   rw [TChain] at h
   obtain ⟨q,r,m,rfl,_,_,h⟩:=h
   simp [h.len]
theorem TChain.mem {w:World} : ∀ {ts:List T} {lo:Nat} {qs:List Q} {hi:Nat},TChain w ts lo qs hi→∀ (i:Nat) (t:T),ts[i]? = some t→∃ q a b,qs[i]? = some q∧TOwn w t a q b∧lo≤a∧b≤hi
 | [],lo,qs,hi,h,i,t,ht=>by simp at ht
 | t0 :: ts,lo,qs,hi,h,i,t,ht=>by
   rw [TChain] at h
   obtain ⟨q,r,m,rfl,ho,hm,h⟩:=h
   cases i with
   | zero =>
     simp at ht
     subst ht
     exact ⟨q,lo,m,rfl,ho,Nat.le_refl _,h.le⟩
   | succ i =>
     obtain ⟨q',a,b,h1,h2,h3,h4⟩:=h.mem i t (by simpa using ht)
     exact ⟨q',a,b,by simpa using h1,h2,by omega,h4⟩
theorem TOwn.le {w:World} {t:T} {lo:Nat} {q:Q} {hi:Nat} (h:TOwn w t lo q hi):lo≤hi:=by
 cases t with
 | node k d ns ks =>
   rw [TOwn] at h
   obtain ⟨_,m1,m2,m3,qs,h1,h2,_,hN,_,hC⟩:=h
   have:=hN.le
   have:=hC.le
   omega
theorem TOwn.rd {w:World} : ∀ {t:T} {lo:Nat} {q:Q} {hi:Nat},TOwn w t lo q hi→TIn w t q:=by
 intro t
 induction t using T.ind with
 | h k d ns ks ih =>
   intro lo q hi h
   rw [TOwn] at h
   rw [TIn]
   obtain ⟨h1,m1,m2,m3,qs,h2,h3,h4,h5,h6,h7⟩:=h
   refine ⟨h1,h4.rd,h5.rd,qs,h6.rd,TIns.mk h7.len fun i t q ht hq=>?_⟩
   obtain ⟨q',a,b,e1,e2,_,_⟩:=h7.mem i t ht
   obtain rfl:q' = q:=Option.some.inj (e1.symm.trans hq)
   exact ih t (List.mem_of_getElem? ht) e2
theorem TOwn.lower {w:World} {t:T} {lo lo2:Nat} {q:Q} {hi:Nat} (h:TOwn w t lo q hi) (hl:lo2≤lo):TOwn w t lo2 q hi:=by
 cases t with
 | node k d ns ks =>
   rw [TOwn] at h ⊢
   obtain ⟨h1,m1,m2,m3,qs,h2,h3,h4,h5⟩:=h
   exact ⟨h1,m1,m2,m3,qs,by omega,h3,h4.wide hl (Nat.le_refl _) h4.2.1,h5⟩
theorem TOwn.out {w w' : World} {lo' hi' : Nat} (ho:Outside lo' hi' w w'):∀ {t:T} {lo:Nat} {q:Q} {hi:Nat},TOwn w t lo q hi→hi'≤lo→TOwn w' t lo q hi:=by
 intro t
 induction t using T.ind with
 | h k d ns ks ih =>
   intro lo q hi h hd
   rw [TOwn] at h ⊢
   obtain ⟨h1,m1,m2,m3,qs,h2,h3,h4,h5,h6,h7⟩:=h
   have h5l:=h5.le
   have key:∀ (ts:List T) (lo2:Nat) (rs:List Q) (hi2:Nat),(∀ t∈ts,t∈ks)→TChain w ts lo2 rs hi2→hi'≤lo2→TChain w' ts lo2 rs hi2:=by
    intro ts
    induction ts with
    | nil=>intro lo2 rs hi2 _ h _; rw [TChain] at h ⊢; exact h
    | cons t ts iht =>
      intro lo2 rs hi2 hm h hd2
      rw [TChain] at h ⊢
      obtain ⟨q1,r,m,e,o,hmm,h⟩:=h
      exact ⟨q1,r,m,e,ih t (hm t (List.mem_cons_self ..)) o hd2,hmm,iht m r hi2 (fun t ht=>hm t (List.mem_cons_of_mem _ ht)) h (by omega)⟩
   exact ⟨h1,m1,m2,m3,qs,h2,h3,h4.outside ho (.inr hd),h5.out ho (by omega),h6.out ho (.inr (by omega)),key ks m3 qs hi (fun t ht=>ht) h7 (by omega)⟩
theorem TChain.out {w w' : World} {lo' hi' : Nat} (ho:Outside lo' hi' w w'):∀ {ts:List T} {lo:Nat} {qs:List Q} {hi:Nat},TChain w ts lo qs hi→hi'≤lo→TChain w' ts lo qs hi
 | [],lo,qs,hi,h,_=>by rw [TChain] at h ⊢; exact h
 | t :: ts,lo,qs,hi,h,hd=>by
   rw [TChain] at h ⊢
   obtain ⟨q1,r,m,e,o,hmm,h⟩:=h
   exact ⟨q1,r,m,e,o.out ho hd,hmm,h.out ho (by omega)⟩
theorem TOwn.step {w w' : World} {t:T} {lo:Nat} {q:Q} {hi:Nat} (h:TOwn w t lo q hi) (hb:Below w.heap.size w w'):TOwn w' t lo q hi:=h.out (Outside.of_below hb 0 0) (Nat.zero_le _)
theorem TChain.step {w w' : World} {ts:List T} {lo:Nat} {qs:List Q} {hi:Nat} (h:TChain w ts lo qs hi) (hb:Below w.heap.size w w'):TChain w' ts lo qs hi:=h.out (Outside.of_below hb 0 0) (Nat.zero_le _)
theorem TChain.snoc {w:World} {t:T} {q:Q} {hi' : Nat} : ∀ {ts:List T} {lo:Nat} {qs:List Q} {hi:Nat},TChain w ts lo qs hi→TOwn w t hi q hi'→TChain w (ts++[t]) lo (qs++[q]) hi'
 | [],lo,qs,hi,h,ho=>by
   rw [TChain] at h
   obtain ⟨rfl,hl⟩:=h
   have hle:=ho.le
   rw [List.nil_append,TChain]
   exact ⟨q,[],hi',rfl,ho.lower hl,by omega,by rw [TChain]; exact ⟨rfl,Nat.le_refl _⟩⟩
 | t0 :: ts,lo,qs,hi,h,ho=>by
   rw [TChain] at h
   obtain ⟨q1,r,m,rfl,o,hm,h⟩:=h
   rw [List.cons_append,TChain]
   exact ⟨q1,r++[q],m,rfl,o,hm,h.snoc ho⟩
end Go.Proofs.YtgaadpkefncnmaaGreatDoor
/-
  The sizes of structs, field by field.
-/
namespace Go.Proofs.YtgaadpkefncnmaaGreatDoor
open Go.RowKit
set_option linter.unusedVariables false
set_option linter.unusedSimpArgs false
theorem bulks_mem {α:Type} {f:α→List Cel} {l:List α} {x:α} (h:x∈l):bulks (f x)≤bulks (cells f l):=by
 induction l with
 | nil=>cases h
 | cons y l ih =>
   rw [cells,bulks_app]
   rcases List.mem_cons.1 h with rfl | h
   ·omega
   ·have:=ih h; omega
theorem seq_bulk {α:Type} (sz:Nat) (f:α→List Cel) (l:List α):(seqOf sz f l).bulk=l.length + bulks (cells f l):=rfl
theorem num_bulk0 (k:IntKind) (n:Int):(Cel.num k n).bulk=0:=rfl
theorem sumLen_mem2 {ns:List (List Int)} {n:List Int} (h:n∈ns):n.length≤sumLen ns:=by
 induction ns with
 | nil=>cases h
 | cons y l ih =>
   rw [sumLen]
   rcases List.mem_cons.1 h with rfl | h
   ·omega
   ·have:=ih h; omega
theorem raws_bulk (ns:List (List Int)):bulks (cells (fun n=>[raw n]) ns)=sumLen ns:=by
 have:=names_bulk ns
 rw [names,Cel.bulk] at this
 omega
theorem bulk_Obj (x:DObj):bulks x.cells=x.name.length + (bulks x.tree.cells + ((x.refs.length + sumLen x.refs) + (x.frm.length + x.out.length))):=by
 rw [x.cells_top]
 simp only [bulks,bulks_app,raw_bulkT,raws_bulk,seq_bulk,num_bulk0]
 omega
theorem bulk_Real (x:DReal):bulks x.cells=x.drv.length + (x.out.length + x.path.length):=by
 rw [x.cells_top]
 simp only [bulks,bulks_app,raw_bulkT,raws_bulk,seq_bulk,num_bulk0]
 omega
theorem bulk_Store (x:DStore):bulks x.cells=(x.objs.length + bulks (cells DObj.cells x.objs)) + ((x.roots.length + sumLen x.roots) + (x.reals.length + bulks (cells DReal.cells x.reals))):=by
 rw [x.cells_top]
 simp only [bulks,bulks_app,raw_bulkT,raws_bulk,seq_bulk,num_bulk0]
 omega
end Go.Proofs.YtgaadpkefncnmaaGreatDoor
/-
  An element of a row of structs, seen cell by cell.
-/
namespace Go.Proofs.YtgaadpkefncnmaaGreatDoor
open Go.RowKit
set_option linter.unusedVariables false
theorem T.elem {w W:World} {l:List T} {v:Value} (h:In1 w (seqOf 4 T.cells l) v) (hb:Below w.heap.size w W) {j:Nat} (hj:j < l.length) :
  ∃ b off c A1 c1 A2 c2 A3 c3,v=.slice (some ⟨b,off,none⟩) l.length c∧(∀ {X:Option Addr} {n m:Nat},v=.slice X n m→X=some ⟨b,off,none⟩)∧b < w.heap.size∧W.cell? ⟨b,off + j * 4,none⟩=some (.int .i64 l[j].kind)∧W.cell? ⟨b,off + j * 4 + 1,none⟩=some (.slice A1 l[j].data.length c1)∧W.cell? ⟨b,off + j * 4 + 2,none⟩=some (.slice A2 l[j].names.length c2)∧W.cell? ⟨b,off + j * 4 + 3,none⟩=some (.slice A3 l[j].kids.length c3)∧In1 w (raw l[j].data) (.slice A1 l[j].data.length c1)∧In1 w (Go.Proofs.YtgaadpkefncnmaaGreatDoor.names l[j].names) (.slice A2 l[j].names.length c2)∧In1 w (seqOf 4 T.cells l[j].kids) (.slice A3 l[j].kids.length c3):=by
 obtain ⟨F,h⟩:=h
 obtain ⟨b,off,c,us,Fj,e,hl,hr,hi,_⟩:=h.elem (fun x:T=>x.cells_len) hj
 obtain ⟨A1,c1,A2,c2,A3,c3,rfl,i1,i2,i3⟩:=T.view ⟨Fj,hi⟩
 refine ⟨b,off,c,A1,c1,A2,c2,A3,c3,e,(fun e2=>by rw [e] at e2; injection e2 with e2; exact e2.symm),hl,?_,?_,?_,?_,i1,i2,i3⟩
 ·exact (hb.cell (p:=⟨b,off + j * 4 + 0,none⟩) hl).trans (hr 0 _ rfl)
 ·exact (hb.cell (p:=⟨b,off + j * 4 + 1,none⟩) hl).trans (hr 1 _ rfl)
 ·exact (hb.cell (p:=⟨b,off + j * 4 + 2,none⟩) hl).trans (hr 2 _ rfl)
 ·exact (hb.cell (p:=⟨b,off + j * 4 + 3,none⟩) hl).trans (hr 3 _ rfl)
theorem DReal.elem {w W:World} {l:List DReal} {v:Value} (h:In1 w (seqOf 3 DReal.cells l) v) (hb:Below w.heap.size w W) {j:Nat} (hj:j < l.length) :
  ∃ b off c A0 c0 A1 c1 A2 c2,v=.slice (some ⟨b,off,none⟩) l.length c∧(∀ {X:Option Addr} {n m:Nat},v=.slice X n m→X=some ⟨b,off,none⟩)∧b < w.heap.size∧W.cell? ⟨b,off + j * 3,none⟩=some (.slice A0 l[j].drv.length c0)∧W.cell? ⟨b,off + j * 3 + 1,none⟩=some (.slice A1 l[j].out.length c1)∧W.cell? ⟨b,off + j * 3 + 2,none⟩=some (.slice A2 l[j].path.length c2)∧In1 w (raw l[j].drv) (.slice A0 l[j].drv.length c0)∧In1 w (raw l[j].out) (.slice A1 l[j].out.length c1)∧In1 w (raw l[j].path) (.slice A2 l[j].path.length c2):=by
 obtain ⟨F,h⟩:=h
 obtain ⟨b,off,c,us,Fj,e,hl,hr,hi,_⟩:=h.elem (fun x:DReal=>x.cells_len) hj
 obtain ⟨A0,c0,A1,c1,A2,c2,rfl,i0,i1,i2⟩:=DReal.view ⟨Fj,hi⟩
 refine ⟨b,off,c,A0,c0,A1,c1,A2,c2,e,(fun e2=>by rw [e] at e2; injection e2 with e2; exact e2.symm),hl,?_,?_,?_,i0,i1,i2⟩
 ·exact (hb.cell (p:=⟨b,off + j * 3 + 0,none⟩) hl).trans (hr 0 _ rfl)
 ·exact (hb.cell (p:=⟨b,off + j * 3 + 1,none⟩) hl).trans (hr 1 _ rfl)
 ·exact (hb.cell (p:=⟨b,off + j * 3 + 2,none⟩) hl).trans (hr 2 _ rfl)
theorem DOp.elem {w W:World} {l:List DOp} {v:Value} (h:In1 w (seqOf 5 DOp.cells l) v) (hb:Below w.heap.size w W) {j:Nat} (hj:j < l.length) :
  ∃ b off c A2 c2 A3 c3,v=.slice (some ⟨b,off,none⟩) l.length c∧(∀ {X:Option Addr} {n m:Nat},v=.slice X n m→X=some ⟨b,off,none⟩)∧b < w.heap.size∧W.cell? ⟨b,off + j * 5,none⟩=some (.int .i64 l[j].code)∧W.cell? ⟨b,off + j * 5 + 1,none⟩=some (.int .i64 l[j].out)∧W.cell? ⟨b,off + j * 5 + 2,none⟩=some (.slice A2 l[j].name.length c2)∧W.cell? ⟨b,off + j * 5 + 3,none⟩=some (.slice A3 l[j].text.length c3)∧W.cell? ⟨b,off + j * 5 + 4,none⟩=some (.int .i64 l[j].arg)∧In1 w (raw l[j].name) (.slice A2 l[j].name.length c2)∧In1 w (raw l[j].text) (.slice A3 l[j].text.length c3):=by
 obtain ⟨F,h⟩:=h
 obtain ⟨b,off,c,us,Fj,e,hl,hr,hi,_⟩:=h.elem (fun x:DOp=>x.cells_len) hj
 obtain ⟨A2,c2,A3,c3,rfl,i2,i3⟩:=DOp.view ⟨Fj,hi⟩
 refine ⟨b,off,c,A2,c2,A3,c3,e,(fun e2=>by rw [e] at e2; injection e2 with e2; exact e2.symm),hl,?_,?_,?_,?_,?_,i2,i3⟩
 ·exact (hb.cell (p:=⟨b,off + j * 5 + 0,none⟩) hl).trans (hr 0 _ rfl)
 ·exact (hb.cell (p:=⟨b,off + j * 5 + 1,none⟩) hl).trans (hr 1 _ rfl)
 ·exact (hb.cell (p:=⟨b,off + j * 5 + 2,none⟩) hl).trans (hr 2 _ rfl)
 ·exact (hb.cell (p:=⟨b,off + j * 5 + 3,none⟩) hl).trans (hr 3 _ rfl)
 ·exact (hb.cell (p:=⟨b,off + j * 5 + 4,none⟩) hl).trans (hr 4 _ rfl)
theorem DIn.elem {w W:World} {l:List DIn} {v:Value} (h:In1 w (seqOf 2 DIn.cells l) v) (hb:Below w.heap.size w W) {j:Nat} (hj:j < l.length) :
  ∃ b off c A0 c0 A1 c1,v=.slice (some ⟨b,off,none⟩) l.length c∧(∀ {X:Option Addr} {n m:Nat},v=.slice X n m→X=some ⟨b,off,none⟩)∧b < w.heap.size∧W.cell? ⟨b,off + j * 2,none⟩=some (.slice A0 l[j].drv.length c0)∧W.cell? ⟨b,off + j * 2 + 1,none⟩=some (.slice A1 l[j].out.length c1)∧In1 w (raw l[j].drv) (.slice A0 l[j].drv.length c0)∧In1 w (raw l[j].out) (.slice A1 l[j].out.length c1):=by
 obtain ⟨F,h⟩:=h
 obtain ⟨b,off,c,us,Fj,e,hl,hr,hi,_⟩:=h.elem (fun x:DIn=>x.cells_len) hj
 obtain ⟨A0,c0,A1,c1,rfl,i0,i1⟩:=DIn.view ⟨Fj,hi⟩
 refine ⟨b,off,c,A0,c0,A1,c1,e,(fun e2=>by rw [e] at e2; injection e2 with e2; exact e2.symm),hl,?_,?_,i0,i1⟩
 ·exact (hb.cell (p:=⟨b,off + j * 2 + 0,none⟩) hl).trans (hr 0 _ rfl)
 ·exact (hb.cell (p:=⟨b,off + j * 2 + 1,none⟩) hl).trans (hr 1 _ rfl)
theorem DObj.elem {w W:World} {l:List DObj} {v:Value} (h:In1 w (seqOf 9 DObj.cells l) v) (hb:Below w.heap.size w W) {j:Nat} (hj:j < l.length) :
  ∃ b off c A0 c0 A3 c3 A4 c4 A5 c5 A6 c6 A7 c7 A8 c8,v=.slice (some ⟨b,off,none⟩) l.length c∧(∀ {X:Option Addr} {n m:Nat},v=.slice X n m→X=some ⟨b,off,none⟩)∧b < w.heap.size∧W.cell? ⟨b,off + j * 9,none⟩=some (.slice A0 l[j].name.length c0)∧W.cell? ⟨b,off + j * 9 + 1,none⟩=some (.int .i64 l[j].kind)∧W.cell? ⟨b,off + j * 9 + 2,none⟩=some (.int .i64 l[j].tree.kind)∧W.cell? ⟨b,off + j * 9 + 3,none⟩=some (.slice A3 l[j].tree.data.length c3)∧W.cell? ⟨b,off + j * 9 + 4,none⟩=some (.slice A4 l[j].tree.names.length c4)∧W.cell? ⟨b,off + j * 9 + 5,none⟩=some (.slice A5 l[j].tree.kids.length c5)∧W.cell? ⟨b,off + j * 9 + 6,none⟩=some (.slice A6 l[j].refs.length c6)∧W.cell? ⟨b,off + j * 9 + 7,none⟩=some (.slice A7 l[j].frm.length c7)∧W.cell? ⟨b,off + j * 9 + 8,none⟩=some (.slice A8 l[j].out.length c8)∧In1 w (raw l[j].name) (.slice A0 l[j].name.length c0)∧In1 w (raw l[j].tree.data) (.slice A3 l[j].tree.data.length c3)∧In1 w (Go.Proofs.YtgaadpkefncnmaaGreatDoor.names l[j].tree.names) (.slice A4 l[j].tree.names.length c4)∧In1 w (seqOf 4 T.cells l[j].tree.kids) (.slice A5 l[j].tree.kids.length c5)∧In1 w (Go.Proofs.YtgaadpkefncnmaaGreatDoor.names l[j].refs) (.slice A6 l[j].refs.length c6)∧In1 w (raw l[j].frm) (.slice A7 l[j].frm.length c7)∧In1 w (raw l[j].out) (.slice A8 l[j].out.length c8):=by
 obtain ⟨F,h⟩:=h
 obtain ⟨b,off,c,us,Fj,e,hl,hr,hi,_⟩:=h.elem (fun x:DObj=>x.cells_len) hj
 obtain ⟨A0,c0,A3,c3,A4,c4,A5,c5,A6,c6,A7,c7,A8,c8,rfl,i0,i3,i4,i5,i6,i7,i8⟩:=DObj.view ⟨Fj,hi⟩
 refine ⟨b,off,c,A0,c0,A3,c3,A4,c4,A5,c5,A6,c6,A7,c7,A8,c8,e,(fun e2=>by rw [e] at e2; injection e2 with e2; exact e2.symm),hl,?_,?_,?_,?_,?_,?_,?_,?_,?_,i0,i3,i4,i5,i6,i7,i8⟩
 ·exact (hb.cell (p:=⟨b,off + j * 9 + 0,none⟩) hl).trans (hr 0 _ rfl)
 ·exact (hb.cell (p:=⟨b,off + j * 9 + 1,none⟩) hl).trans (hr 1 _ rfl)
 ·exact (hb.cell (p:=⟨b,off + j * 9 + 2,none⟩) hl).trans (hr 2 _ rfl)
 ·exact (hb.cell (p:=⟨b,off + j * 9 + 3,none⟩) hl).trans (hr 3 _ rfl)
 ·exact (hb.cell (p:=⟨b,off + j * 9 + 4,none⟩) hl).trans (hr 4 _ rfl)
 ·exact (hb.cell (p:=⟨b,off + j * 9 + 5,none⟩) hl).trans (hr 5 _ rfl)
 ·exact (hb.cell (p:=⟨b,off + j * 9 + 6,none⟩) hl).trans (hr 6 _ rfl)
 ·exact (hb.cell (p:=⟨b,off + j * 9 + 7,none⟩) hl).trans (hr 7 _ rfl)
 ·exact (hb.cell (p:=⟨b,off + j * 9 + 8,none⟩) hl).trans (hr 8 _ rfl)
theorem DDrv.elem {w W:World} {l:List DDrv} {v:Value} (h:In1 w (seqOf 4 DDrv.cells l) v) (hb:Below w.heap.size w W) {j:Nat} (hj:j < l.length) :
  ∃ b off c A0 c0 A1 c1 A2 c2 A3 c3,v=.slice (some ⟨b,off,none⟩) l.length c∧(∀ {X:Option Addr} {n m:Nat},v=.slice X n m→X=some ⟨b,off,none⟩)∧b < w.heap.size∧W.cell? ⟨b,off + j * 4,none⟩=some (.slice A0 l[j].srcs.length c0)∧W.cell? ⟨b,off + j * 4 + 1,none⟩=some (.slice A1 l[j].ins.length c1)∧W.cell? ⟨b,off + j * 4 + 2,none⟩=some (.slice A2 l[j].outs.length c2)∧W.cell? ⟨b,off + j * 4 + 3,none⟩=some (.slice A3 l[j].ops.length c3)∧In1 w (Go.Proofs.YtgaadpkefncnmaaGreatDoor.names l[j].srcs) (.slice A0 l[j].srcs.length c0)∧In1 w (seqOf 2 DIn.cells l[j].ins) (.slice A1 l[j].ins.length c1)∧In1 w (Go.Proofs.YtgaadpkefncnmaaGreatDoor.names l[j].outs) (.slice A2 l[j].outs.length c2)∧In1 w (seqOf 5 DOp.cells l[j].ops) (.slice A3 l[j].ops.length c3):=by
 obtain ⟨F,h⟩:=h
 obtain ⟨b,off,c,us,Fj,e,hl,hr,hi,_⟩:=h.elem (fun x:DDrv=>x.cells_len) hj
 obtain ⟨A0,c0,A1,c1,A2,c2,A3,c3,rfl,i0,i1,i2,i3⟩:=DDrv.view ⟨Fj,hi⟩
 refine ⟨b,off,c,A0,c0,A1,c1,A2,c2,A3,c3,e,(fun e2=>by rw [e] at e2; injection e2 with e2; exact e2.symm),hl,?_,?_,?_,?_,i0,i1,i2,i3⟩
 ·exact (hb.cell (p:=⟨b,off + j * 4 + 0,none⟩) hl).trans (hr 0 _ rfl)
 ·exact (hb.cell (p:=⟨b,off + j * 4 + 1,none⟩) hl).trans (hr 1 _ rfl)
 ·exact (hb.cell (p:=⟨b,off + j * 4 + 2,none⟩) hl).trans (hr 2 _ rfl)
 ·exact (hb.cell (p:=⟨b,off + j * 4 + 3,none⟩) hl).trans (hr 3 _ rfl)
theorem DJob.elem {w W:World} {l:List DJob} {v:Value} (h:In1 w (seqOf 8 DJob.cells l) v) (hb:Below w.heap.size w W) {j:Nat} (hj:j < l.length) :
  ∃ b off c A0 c0 A1 c1 A2 c2 A3 c3 A4 c4 A6 c6 A7 c7,v=.slice (some ⟨b,off,none⟩) l.length c∧(∀ {X:Option Addr} {n m:Nat},v=.slice X n m→X=some ⟨b,off,none⟩)∧b < w.heap.size∧W.cell? ⟨b,off + j * 8,none⟩=some (.slice A0 l[j].d.srcs.length c0)∧W.cell? ⟨b,off + j * 8 + 1,none⟩=some (.slice A1 l[j].d.ins.length c1)∧W.cell? ⟨b,off + j * 8 + 2,none⟩=some (.slice A2 l[j].d.outs.length c2)∧W.cell? ⟨b,off + j * 8 + 3,none⟩=some (.slice A3 l[j].d.ops.length c3)∧W.cell? ⟨b,off + j * 8 + 4,none⟩=some (.slice A4 l[j].name.length c4)∧W.cell? ⟨b,off + j * 8 + 5,none⟩=some (.int .i64 l[j].pc)∧W.cell? ⟨b,off + j * 8 + 6,none⟩=some (.slice A6 l[j].args.length c6)∧W.cell? ⟨b,off + j * 8 + 7,none⟩=some (.slice A7 l[j].outs.length c7)∧In1 w (Go.Proofs.YtgaadpkefncnmaaGreatDoor.names l[j].d.srcs) (.slice A0 l[j].d.srcs.length c0)∧In1 w (seqOf 2 DIn.cells l[j].d.ins) (.slice A1 l[j].d.ins.length c1)∧In1 w (Go.Proofs.YtgaadpkefncnmaaGreatDoor.names l[j].d.outs) (.slice A2 l[j].d.outs.length c2)∧In1 w (seqOf 5 DOp.cells l[j].d.ops) (.slice A3 l[j].d.ops.length c3)∧In1 w (raw l[j].name) (.slice A4 l[j].name.length c4)∧In1 w (Go.Proofs.YtgaadpkefncnmaaGreatDoor.names l[j].args) (.slice A6 l[j].args.length c6)∧In1 w (seqOf 4 T.cells l[j].outs) (.slice A7 l[j].outs.length c7):=by
 obtain ⟨F,h⟩:=h
 obtain ⟨b,off,c,us,Fj,e,hl,hr,hi,_⟩:=h.elem (fun x:DJob=>x.cells_len) hj
 obtain ⟨A0,c0,A1,c1,A2,c2,A3,c3,A4,c4,A6,c6,A7,c7,rfl,i0,i1,i2,i3,i4,i6,i7⟩:=DJob.view ⟨Fj,hi⟩
 refine ⟨b,off,c,A0,c0,A1,c1,A2,c2,A3,c3,A4,c4,A6,c6,A7,c7,e,(fun e2=>by rw [e] at e2; injection e2 with e2; exact e2.symm),hl,?_,?_,?_,?_,?_,?_,?_,?_,i0,i1,i2,i3,i4,i6,i7⟩
 ·exact (hb.cell (p:=⟨b,off + j * 8 + 0,none⟩) hl).trans (hr 0 _ rfl)
 ·exact (hb.cell (p:=⟨b,off + j * 8 + 1,none⟩) hl).trans (hr 1 _ rfl)
 ·exact (hb.cell (p:=⟨b,off + j * 8 + 2,none⟩) hl).trans (hr 2 _ rfl)
 ·exact (hb.cell (p:=⟨b,off + j * 8 + 3,none⟩) hl).trans (hr 3 _ rfl)
 ·exact (hb.cell (p:=⟨b,off + j * 8 + 4,none⟩) hl).trans (hr 4 _ rfl)
 ·exact (hb.cell (p:=⟨b,off + j * 8 + 5,none⟩) hl).trans (hr 5 _ rfl)
 ·exact (hb.cell (p:=⟨b,off + j * 8 + 6,none⟩) hl).trans (hr 6 _ rfl)
 ·exact (hb.cell (p:=⟨b,off + j * 8 + 7,none⟩) hl).trans (hr 7 _ rfl)
theorem DGoal.elem {w W:World} {l:List DGoal} {v:Value} (h:In1 w (seqOf 13 DGoal.cells l) v) (hb:Below w.heap.size w W) {j:Nat} (hj:j < l.length) :
  ∃ b off c A0 c0 A4 c4 A5 c5 A6 c6 A7 c7 A8 c8 A10 c10 A11 c11 A12 c12,v=.slice (some ⟨b,off,none⟩) l.length c∧(∀ {X:Option Addr} {n m:Nat},v=.slice X n m→X=some ⟨b,off,none⟩)∧b < w.heap.size∧W.cell? ⟨b,off + j * 13,none⟩=some (.slice A0 l[j].drv.length c0)∧W.cell? ⟨b,off + j * 13 + 1,none⟩=some (.int .i64 l[j].state)∧W.cell? ⟨b,off + j * 13 + 2,none⟩=some (.int .i64 l[j].err)∧W.cell? ⟨b,off + j * 13 + 3,none⟩=some (.bool l[j].begun)∧W.cell? ⟨b,off + j * 13 + 4,none⟩=some (.slice A4 l[j].job.d.srcs.length c4)∧W.cell? ⟨b,off + j * 13 + 5,none⟩=some (.slice A5 l[j].job.d.ins.length c5)∧W.cell? ⟨b,off + j * 13 + 6,none⟩=some (.slice A6 l[j].job.d.outs.length c6)∧W.cell? ⟨b,off + j * 13 + 7,none⟩=some (.slice A7 l[j].job.d.ops.length c7)∧W.cell? ⟨b,off + j * 13 + 8,none⟩=some (.slice A8 l[j].job.name.length c8)∧W.cell? ⟨b,off + j * 13 + 9,none⟩=some (.int .i64 l[j].job.pc)∧W.cell? ⟨b,off + j * 13 + 10,none⟩=some (.slice A10 l[j].job.args.length c10)∧W.cell? ⟨b,off + j * 13 + 11,none⟩=some (.slice A11 l[j].job.outs.length c11)∧W.cell? ⟨b,off + j * 13 + 12,none⟩=some (.slice A12 l[j].need.length c12)∧In1 w (raw l[j].drv) (.slice A0 l[j].drv.length c0)∧In1 w (Go.Proofs.YtgaadpkefncnmaaGreatDoor.names l[j].job.d.srcs) (.slice A4 l[j].job.d.srcs.length c4)∧In1 w (seqOf 2 DIn.cells l[j].job.d.ins) (.slice A5 l[j].job.d.ins.length c5)∧In1 w (Go.Proofs.YtgaadpkefncnmaaGreatDoor.names l[j].job.d.outs) (.slice A6 l[j].job.d.outs.length c6)∧In1 w (seqOf 5 DOp.cells l[j].job.d.ops) (.slice A7 l[j].job.d.ops.length c7)∧In1 w (raw l[j].job.name) (.slice A8 l[j].job.name.length c8)∧In1 w (Go.Proofs.YtgaadpkefncnmaaGreatDoor.names l[j].job.args) (.slice A10 l[j].job.args.length c10)∧In1 w (seqOf 4 T.cells l[j].job.outs) (.slice A11 l[j].job.outs.length c11)∧In1 w (Go.Proofs.YtgaadpkefncnmaaGreatDoor.names l[j].need) (.slice A12 l[j].need.length c12):=by
 obtain ⟨F,h⟩:=h
 obtain ⟨b,off,c,us,Fj,e,hl,hr,hi,_⟩:=h.elem (fun x:DGoal=>x.cells_len) hj
 obtain ⟨A0,c0,A4,c4,A5,c5,A6,c6,A7,c7,A8,c8,A10,c10,A11,c11,A12,c12,rfl,i0,i4,i5,i6,i7,i8,i10,i11,i12⟩:=DGoal.view ⟨Fj,hi⟩
 refine ⟨b,off,c,A0,c0,A4,c4,A5,c5,A6,c6,A7,c7,A8,c8,A10,c10,A11,c11,A12,c12,e,(fun e2=>by rw [e] at e2; injection e2 with e2; exact e2.symm),hl,?_,?_,?_,?_,?_,?_,?_,?_,?_,?_,?_,?_,?_,i0,i4,i5,i6,i7,i8,i10,i11,i12⟩
 ·exact (hb.cell (p:=⟨b,off + j * 13 + 0,none⟩) hl).trans (hr 0 _ rfl)
 ·exact (hb.cell (p:=⟨b,off + j * 13 + 1,none⟩) hl).trans (hr 1 _ rfl)
 ·exact (hb.cell (p:=⟨b,off + j * 13 + 2,none⟩) hl).trans (hr 2 _ rfl)
 ·exact (hb.cell (p:=⟨b,off + j * 13 + 3,none⟩) hl).trans (hr 3 _ rfl)
 ·exact (hb.cell (p:=⟨b,off + j * 13 + 4,none⟩) hl).trans (hr 4 _ rfl)
 ·exact (hb.cell (p:=⟨b,off + j * 13 + 5,none⟩) hl).trans (hr 5 _ rfl)
 ·exact (hb.cell (p:=⟨b,off + j * 13 + 6,none⟩) hl).trans (hr 6 _ rfl)
 ·exact (hb.cell (p:=⟨b,off + j * 13 + 7,none⟩) hl).trans (hr 7 _ rfl)
 ·exact (hb.cell (p:=⟨b,off + j * 13 + 8,none⟩) hl).trans (hr 8 _ rfl)
 ·exact (hb.cell (p:=⟨b,off + j * 13 + 9,none⟩) hl).trans (hr 9 _ rfl)
 ·exact (hb.cell (p:=⟨b,off + j * 13 + 10,none⟩) hl).trans (hr 10 _ rfl)
 ·exact (hb.cell (p:=⟨b,off + j * 13 + 11,none⟩) hl).trans (hr 11 _ rfl)
 ·exact (hb.cell (p:=⟨b,off + j * 13 + 12,none⟩) hl).trans (hr 12 _ rfl)
theorem DReg.elem {w W:World} {l:List DReg} {v:Value} (h:In1 w (seqOf 14 DReg.cells l) v) (hb:Below w.heap.size w W) {j:Nat} (hj:j < l.length) :
  ∃ b off c A1 c1 A4 c4 A5 c5 A6 c6 A7 c7 A8 c8 A9 c9 A10 c10 A11 c11 A12 c12 A13 c13,v=.slice (some ⟨b,off,none⟩) l.length c∧(∀ {X:Option Addr} {n m:Nat},v=.slice X n m→X=some ⟨b,off,none⟩)∧b < w.heap.size∧W.cell? ⟨b,off + j * 14,none⟩=some (.int .i64 l[j].kind)∧W.cell? ⟨b,off + j * 14 + 1,none⟩=some (.slice A1 l[j].obj.name.length c1)∧W.cell? ⟨b,off + j * 14 + 2,none⟩=some (.int .i64 l[j].obj.kind)∧W.cell? ⟨b,off + j * 14 + 3,none⟩=some (.int .i64 l[j].obj.tree.kind)∧W.cell? ⟨b,off + j * 14 + 4,none⟩=some (.slice A4 l[j].obj.tree.data.length c4)∧W.cell? ⟨b,off + j * 14 + 5,none⟩=some (.slice A5 l[j].obj.tree.names.length c5)∧W.cell? ⟨b,off + j * 14 + 6,none⟩=some (.slice A6 l[j].obj.tree.kids.length c6)∧W.cell? ⟨b,off + j * 14 + 7,none⟩=some (.slice A7 l[j].obj.refs.length c7)∧W.cell? ⟨b,off + j * 14 + 8,none⟩=some (.slice A8 l[j].obj.frm.length c8)∧W.cell? ⟨b,off + j * 14 + 9,none⟩=some (.slice A9 l[j].obj.out.length c9)∧W.cell? ⟨b,off + j * 14 + 10,none⟩=some (.slice A10 l[j].real.drv.length c10)∧W.cell? ⟨b,off + j * 14 + 11,none⟩=some (.slice A11 l[j].real.out.length c11)∧W.cell? ⟨b,off + j * 14 + 12,none⟩=some (.slice A12 l[j].real.path.length c12)∧W.cell? ⟨b,off + j * 14 + 13,none⟩=some (.slice A13 l[j].name.length c13)∧In1 w (raw l[j].obj.name) (.slice A1 l[j].obj.name.length c1)∧In1 w (raw l[j].obj.tree.data) (.slice A4 l[j].obj.tree.data.length c4)∧In1 w (Go.Proofs.YtgaadpkefncnmaaGreatDoor.names l[j].obj.tree.names) (.slice A5 l[j].obj.tree.names.length c5)∧In1 w (seqOf 4 T.cells l[j].obj.tree.kids) (.slice A6 l[j].obj.tree.kids.length c6)∧In1 w (Go.Proofs.YtgaadpkefncnmaaGreatDoor.names l[j].obj.refs) (.slice A7 l[j].obj.refs.length c7)∧In1 w (raw l[j].obj.frm) (.slice A8 l[j].obj.frm.length c8)∧In1 w (raw l[j].obj.out) (.slice A9 l[j].obj.out.length c9)∧In1 w (raw l[j].real.drv) (.slice A10 l[j].real.drv.length c10)∧In1 w (raw l[j].real.out) (.slice A11 l[j].real.out.length c11)∧In1 w (raw l[j].real.path) (.slice A12 l[j].real.path.length c12)∧In1 w (raw l[j].name) (.slice A13 l[j].name.length c13):=by
 obtain ⟨F,h⟩:=h
 obtain ⟨b,off,c,us,Fj,e,hl,hr,hi,_⟩:=h.elem (fun x:DReg=>x.cells_len) hj
 obtain ⟨A1,c1,A4,c4,A5,c5,A6,c6,A7,c7,A8,c8,A9,c9,A10,c10,A11,c11,A12,c12,A13,c13,rfl,i1,i4,i5,i6,i7,i8,i9,i10,i11,i12,i13⟩:=DReg.view ⟨Fj,hi⟩
 refine ⟨b,off,c,A1,c1,A4,c4,A5,c5,A6,c6,A7,c7,A8,c8,A9,c9,A10,c10,A11,c11,A12,c12,A13,c13,e,(fun e2=>by rw [e] at e2; injection e2 with e2; exact e2.symm),hl,?_,?_,?_,?_,?_,?_,?_,?_,?_,?_,?_,?_,?_,?_,i1,i4,i5,i6,i7,i8,i9,i10,i11,i12,i13⟩
 ·exact (hb.cell (p:=⟨b,off + j * 14 + 0,none⟩) hl).trans (hr 0 _ rfl)
 ·exact (hb.cell (p:=⟨b,off + j * 14 + 1,none⟩) hl).trans (hr 1 _ rfl)
 ·exact (hb.cell (p:=⟨b,off + j * 14 + 2,none⟩) hl).trans (hr 2 _ rfl)
 ·exact (hb.cell (p:=⟨b,off + j * 14 + 3,none⟩) hl).trans (hr 3 _ rfl)
 ·exact (hb.cell (p:=⟨b,off + j * 14 + 4,none⟩) hl).trans (hr 4 _ rfl)
 ·exact (hb.cell (p:=⟨b,off + j * 14 + 5,none⟩) hl).trans (hr 5 _ rfl)
 ·exact (hb.cell (p:=⟨b,off + j * 14 + 6,none⟩) hl).trans (hr 6 _ rfl)
 ·exact (hb.cell (p:=⟨b,off + j * 14 + 7,none⟩) hl).trans (hr 7 _ rfl)
 ·exact (hb.cell (p:=⟨b,off + j * 14 + 8,none⟩) hl).trans (hr 8 _ rfl)
 ·exact (hb.cell (p:=⟨b,off + j * 14 + 9,none⟩) hl).trans (hr 9 _ rfl)
 ·exact (hb.cell (p:=⟨b,off + j * 14 + 10,none⟩) hl).trans (hr 10 _ rfl)
 ·exact (hb.cell (p:=⟨b,off + j * 14 + 11,none⟩) hl).trans (hr 11 _ rfl)
 ·exact (hb.cell (p:=⟨b,off + j * 14 + 12,none⟩) hl).trans (hr 12 _ rfl)
 ·exact (hb.cell (p:=⟨b,off + j * 14 + 13,none⟩) hl).trans (hr 13 _ rfl)
theorem DCmd.elem {w W:World} {l:List DCmd} {v:Value} (h:In1 w (seqOf 10 DCmd.cells l) v) (hb:Below w.heap.size w W) {j:Nat} (hj:j < l.length) :
  ∃ b off c A1 c1 A3 c3 A4 c4 A5 c5 A6 c6 A7 c7 A8 c8,v=.slice (some ⟨b,off,none⟩) l.length c∧(∀ {X:Option Addr} {n m:Nat},v=.slice X n m→X=some ⟨b,off,none⟩)∧b < w.heap.size∧W.cell? ⟨b,off + j * 10,none⟩=some (.int .i64 l[j].kind)∧W.cell? ⟨b,off + j * 10 + 1,none⟩=some (.slice A1 l[j].text.length c1)∧W.cell? ⟨b,off + j * 10 + 2,none⟩=some (.int .i64 l[j].tree.kind)∧W.cell? ⟨b,off + j * 10 + 3,none⟩=some (.slice A3 l[j].tree.data.length c3)∧W.cell? ⟨b,off + j * 10 + 4,none⟩=some (.slice A4 l[j].tree.names.length c4)∧W.cell? ⟨b,off + j * 10 + 5,none⟩=some (.slice A5 l[j].tree.kids.length c5)∧W.cell? ⟨b,off + j * 10 + 6,none⟩=some (.slice A6 l[j].name.length c6)∧W.cell? ⟨b,off + j * 10 + 7,none⟩=some (.slice A7 l[j].out.length c7)∧W.cell? ⟨b,off + j * 10 + 8,none⟩=some (.slice A8 l[j].picks.length c8)∧W.cell? ⟨b,off + j * 10 + 9,none⟩=some (.int .i64 l[j].keep)∧In1 w (raw l[j].text) (.slice A1 l[j].text.length c1)∧In1 w (raw l[j].tree.data) (.slice A3 l[j].tree.data.length c3)∧In1 w (Go.Proofs.YtgaadpkefncnmaaGreatDoor.names l[j].tree.names) (.slice A4 l[j].tree.names.length c4)∧In1 w (seqOf 4 T.cells l[j].tree.kids) (.slice A5 l[j].tree.kids.length c5)∧In1 w (raw l[j].name) (.slice A6 l[j].name.length c6)∧In1 w (raw l[j].out) (.slice A7 l[j].out.length c7)∧In1 w (ints l[j].picks) (.slice A8 l[j].picks.length c8):=by
 obtain ⟨F,h⟩:=h
 obtain ⟨b,off,c,us,Fj,e,hl,hr,hi,_⟩:=h.elem (fun x:DCmd=>x.cells_len) hj
 obtain ⟨A1,c1,A3,c3,A4,c4,A5,c5,A6,c6,A7,c7,A8,c8,rfl,i1,i3,i4,i5,i6,i7,i8⟩:=DCmd.view ⟨Fj,hi⟩
 refine ⟨b,off,c,A1,c1,A3,c3,A4,c4,A5,c5,A6,c6,A7,c7,A8,c8,e,(fun e2=>by rw [e] at e2; injection e2 with e2; exact e2.symm),hl,?_,?_,?_,?_,?_,?_,?_,?_,?_,?_,i1,i3,i4,i5,i6,i7,i8⟩
 ·exact (hb.cell (p:=⟨b,off + j * 10 + 0,none⟩) hl).trans (hr 0 _ rfl)
 ·exact (hb.cell (p:=⟨b,off + j * 10 + 1,none⟩) hl).trans (hr 1 _ rfl)
 ·exact (hb.cell (p:=⟨b,off + j * 10 + 2,none⟩) hl).trans (hr 2 _ rfl)
 ·exact (hb.cell (p:=⟨b,off + j * 10 + 3,none⟩) hl).trans (hr 3 _ rfl)
 ·exact (hb.cell (p:=⟨b,off + j * 10 + 4,none⟩) hl).trans (hr 4 _ rfl)
 ·exact (hb.cell (p:=⟨b,off + j * 10 + 5,none⟩) hl).trans (hr 5 _ rfl)
 ·exact (hb.cell (p:=⟨b,off + j * 10 + 6,none⟩) hl).trans (hr 6 _ rfl)
 ·exact (hb.cell (p:=⟨b,off + j * 10 + 7,none⟩) hl).trans (hr 7 _ rfl)
 ·exact (hb.cell (p:=⟨b,off + j * 10 + 8,none⟩) hl).trans (hr 8 _ rfl)
 ·exact (hb.cell (p:=⟨b,off + j * 10 + 9,none⟩) hl).trans (hr 9 _ rfl)
theorem DTold.elem {w W:World} {l:List DTold} {v:Value} (h:In1 w (seqOf 2 DTold.cells l) v) (hb:Below w.heap.size w W) {j:Nat} (hj:j < l.length) :
  ∃ b off c A1 c1,v=.slice (some ⟨b,off,none⟩) l.length c∧(∀ {X:Option Addr} {n m:Nat},v=.slice X n m→X=some ⟨b,off,none⟩)∧b < w.heap.size∧W.cell? ⟨b,off + j * 2,none⟩=some (.int .i64 l[j].code)∧W.cell? ⟨b,off + j * 2 + 1,none⟩=some (.slice A1 l[j].name.length c1)∧In1 w (raw l[j].name) (.slice A1 l[j].name.length c1):=by
 obtain ⟨F,h⟩:=h
 obtain ⟨b,off,c,us,Fj,e,hl,hr,hi,_⟩:=h.elem (fun x:DTold=>x.cells_len) hj
 obtain ⟨A1,c1,rfl,i1⟩:=DTold.view ⟨Fj,hi⟩
 refine ⟨b,off,c,A1,c1,e,(fun e2=>by rw [e] at e2; injection e2 with e2; exact e2.symm),hl,?_,?_,i1⟩
 ·exact (hb.cell (p:=⟨b,off + j * 2 + 0,none⟩) hl).trans (hr 0 _ rfl)
 ·exact (hb.cell (p:=⟨b,off + j * 2 + 1,none⟩) hl).trans (hr 1 _ rfl)
end Go.Proofs.YtgaadpkefncnmaaGreatDoor
/-
  From the laws' data that come in to data of Lean.
-/
namespace Go.Proofs.YtgaadpkefncnmaaGreatDoor
open Go.ChangeShapes Go.WideShapes Go.ChangeAt Go.RowKit
set_option linter.unusedVariables false
set_option linter.unusedSimpArgs false
section
variable {H:Type} {enc:TypeId × Value→H} {W:World}
theorem names_of_trod' {fuel:Nat} {v:Value} {x:DataW H × List MemPlace} (h:DataW.trod enc Tryz.prog W 0 (fun _=>true) true fuel 23 [v]=some x):∃ l:List (List Int),(names l).ok∧∃ F,Lie W (names l) v F :=
 row_of_trod (α:=List Int) (f:=fun n=>[raw n]) (n:=1) Tryz.underlying23 (by kernel_rfl) (by decide) (by decide) (fun m _ cs x hx=>by
  rcases cs with _ | ⟨u,_ | ⟨u2,cs⟩⟩
  ·exact absurd (DataW.trod_slice Tryz.underlying39 hx) (by rintro (⟨h,_⟩ | ⟨_,_,_,_,_,_,_,h,_⟩) <;> cases h)
  ·obtain ⟨l,h1,F,h2⟩:=raw_of_trod hx
   exact ⟨l,by rw [oks]; exact ⟨h1,trivial⟩,F,lies_one h2⟩
  ·exact absurd (DataW.trod_slice Tryz.underlying39 hx) (by rintro (⟨h,_⟩ | ⟨_,_,_,_,_,_,_,h,_⟩) <;> cases h)) h
set_option maxRecDepth 100000 in
theorem Tree_of_trod (fuel:Nat):∀ (cs:List Value) (x:DataW H × List MemPlace),DataW.trod enc Tryz.prog W 0 (fun _=>true) true fuel 136 cs=some x→∃ a:T,oks a.cells∧∃ F,Lies W a.cells cs F:=by
 induction fuel using Nat.strongRecOn with
 | ind fuel ih =>
   intro cs x h
   obtain ⟨xs,n,hfu,hx,hlen,hxl,hf⟩:=DataW.trod_struct Tryz.underlying136 h
   have hC:Program.cellsOf Tryz.prog 136=4:=by kernel_rfl
   rw [hC] at hlen
   match cs,hlen,xs,hxl with
   | [c0,c1,c2,c3],_,[y0,y1,y2,y3],_ =>
     have C0:Program.cellsOf Tryz.prog 3=1:=by kernel_rfl
     have f0:DataW.trod enc Tryz.prog W 0 (fun _=>true) true n 3 (([c0,c1,c2,c3].drop 0).take (Program.cellsOf Tryz.prog 3))=some y0:=hf 0 _ rfl
     rw [C0] at f0
     replace f0:DataW.trod enc Tryz.prog W 0 (fun _=>true) true n 3 [c0]=some y0:=f0
     have C1:Program.cellsOf Tryz.prog 39=1:=by kernel_rfl
     have f1:DataW.trod enc Tryz.prog W 0 (fun _=>true) true n 39 (([c0,c1,c2,c3].drop 1).take (Program.cellsOf Tryz.prog 39))=some y1:=hf 1 _ rfl
     rw [C1] at f1
     replace f1:DataW.trod enc Tryz.prog W 0 (fun _=>true) true n 39 [c1]=some y1:=f1
     have C2:Program.cellsOf Tryz.prog 23=1:=by kernel_rfl
     have f2:DataW.trod enc Tryz.prog W 0 (fun _=>true) true n 23 (([c0,c1,c2,c3].drop 2).take (Program.cellsOf Tryz.prog 23))=some y2:=hf 2 _ rfl
     rw [C2] at f2
     replace f2:DataW.trod enc Tryz.prog W 0 (fun _=>true) true n 23 [c2]=some y2:=f2
     have C3:Program.cellsOf Tryz.prog 134=1:=by kernel_rfl
     have f3:DataW.trod enc Tryz.prog W 0 (fun _=>true) true n 134 (([c0,c1,c2,c3].drop 3).take (Program.cellsOf Tryz.prog 134))=some y3:=hf 3 _ rfl
     rw [C3] at f3
     replace f3:DataW.trod enc Tryz.prog W 0 (fun _=>true) true n 134 [c3]=some y3:=f3
     obtain ⟨k0,e0,_,w0⟩:=DataW.trod_int Tryz.underlying3 f0
     obtain rfl:=List.singleton_inj.1 e0
     obtain ⟨k1,o1,F1,l1⟩:=raw_of_trod f1
     obtain ⟨k2,o2,F2,l2⟩:=names_of_trod' f2
     obtain ⟨k3,o3,F3,l3⟩:=row_of_trod (α:=T) (f:=T.cells) (n:=4) Tryz.underlying134 (by kernel_rfl) (by decide) (by decide) (fun m hm cs x hx=>ih m (by omega) cs x hx) f3
     refine ⟨T.node k0 k1 k2 k3,?_,?_⟩
     ·rw [T.cells_top]
      simp only [oks,oks_app]
      exact ⟨(num_ok_i64 k0).2 (i64_of_wf w0),o1,o2,o3,trivial⟩
     ·rw [T.cells_top]
      exact ⟨_,((lies_one (lie_num W .i64 k0)).append ((lies_one l1).append ((lies_one l2).append (lies_one l3))))⟩
set_option maxRecDepth 100000 in
theorem Real_of_trod (fuel:Nat):∀ (cs:List Value) (x:DataW H × List MemPlace),DataW.trod enc Tryz.prog W 0 (fun _=>true) true fuel 140 cs=some x→∃ a:DReal,oks a.cells∧∃ F,Lies W a.cells cs F:=by
  intro cs x h
  obtain ⟨xs,n,hfu,hx,hlen,hxl,hf⟩:=DataW.trod_struct Tryz.underlying140 h
  have hC:Program.cellsOf Tryz.prog 140=3:=by kernel_rfl
  rw [hC] at hlen
  match cs,hlen,xs,hxl with
  | [c0,c1,c2],_,[y0,y1,y2],_ =>
    have C0:Program.cellsOf Tryz.prog 39=1:=by kernel_rfl
    have f0:DataW.trod enc Tryz.prog W 0 (fun _=>true) true n 39 (([c0,c1,c2].drop 0).take (Program.cellsOf Tryz.prog 39))=some y0:=hf 0 _ rfl
    rw [C0] at f0
    replace f0:DataW.trod enc Tryz.prog W 0 (fun _=>true) true n 39 [c0]=some y0:=f0
    have C1:Program.cellsOf Tryz.prog 39=1:=by kernel_rfl
    have f1:DataW.trod enc Tryz.prog W 0 (fun _=>true) true n 39 (([c0,c1,c2].drop 1).take (Program.cellsOf Tryz.prog 39))=some y1:=hf 1 _ rfl
    rw [C1] at f1
    replace f1:DataW.trod enc Tryz.prog W 0 (fun _=>true) true n 39 [c1]=some y1:=f1
    have C2:Program.cellsOf Tryz.prog 39=1:=by kernel_rfl
    have f2:DataW.trod enc Tryz.prog W 0 (fun _=>true) true n 39 (([c0,c1,c2].drop 2).take (Program.cellsOf Tryz.prog 39))=some y2:=hf 2 _ rfl
    rw [C2] at f2
    replace f2:DataW.trod enc Tryz.prog W 0 (fun _=>true) true n 39 [c2]=some y2:=f2
    obtain ⟨k0,o0,F0,l0⟩:=raw_of_trod f0
    obtain ⟨k1,o1,F1,l1⟩:=raw_of_trod f1
    obtain ⟨k2,o2,F2,l2⟩:=raw_of_trod f2
    refine ⟨⟨k0,k1,k2⟩,?_,?_⟩
    ·rw [DReal.cells_top]
     simp only [oks,oks_app]
     exact ⟨o0,o1,o2,trivial⟩
    ·rw [DReal.cells_top]
     exact ⟨_,((lies_one l0).append ((lies_one l1).append (lies_one l2)))⟩
theorem RealS_of_trod {fuel:Nat} {v:Value} {x:DataW H × List MemPlace} (h:DataW.trod enc Tryz.prog W 0 (fun _=>true) true fuel 24 [v]=some x):∃ l:List DReal,(seqOf 3 DReal.cells l).ok∧∃ F,Lie W (seqOf 3 DReal.cells l) v F :=
 row_of_trod (α:=DReal) (f:=DReal.cells) (n:=3) Tryz.underlying24 (by kernel_rfl) (by decide) (by decide) (fun m _ cs x hx=>Real_of_trod m cs x hx) h
set_option maxRecDepth 100000 in
theorem Obj_of_trod (fuel:Nat):∀ (cs:List Value) (x:DataW H × List MemPlace),DataW.trod enc Tryz.prog W 0 (fun _=>true) true fuel 138 cs=some x→∃ a:DObj,oks a.cells∧∃ F,Lies W a.cells cs F:=by
  intro cs x h
  obtain ⟨xs,n,hfu,hx,hlen,hxl,hf⟩:=DataW.trod_struct Tryz.underlying138 h
  have hC:Program.cellsOf Tryz.prog 138=9:=by kernel_rfl
  rw [hC] at hlen
  match cs,hlen,xs,hxl with
  | [c0,c1,c2,c3,c4,c5,c6,c7,c8],_,[y0,y1,y2,y3,y4,y5],_ =>
    have C0:Program.cellsOf Tryz.prog 39=1:=by kernel_rfl
    have f0:DataW.trod enc Tryz.prog W 0 (fun _=>true) true n 39 (([c0,c1,c2,c3,c4,c5,c6,c7,c8].drop 0).take (Program.cellsOf Tryz.prog 39))=some y0:=hf 0 _ rfl
    rw [C0] at f0
    replace f0:DataW.trod enc Tryz.prog W 0 (fun _=>true) true n 39 [c0]=some y0:=f0
    have C1:Program.cellsOf Tryz.prog 3=1:=by kernel_rfl
    have f1:DataW.trod enc Tryz.prog W 0 (fun _=>true) true n 3 (([c0,c1,c2,c3,c4,c5,c6,c7,c8].drop 1).take (Program.cellsOf Tryz.prog 3))=some y1:=hf 1 _ rfl
    rw [C1] at f1
    replace f1:DataW.trod enc Tryz.prog W 0 (fun _=>true) true n 3 [c1]=some y1:=f1
    have C2:Program.cellsOf Tryz.prog 136=4:=by kernel_rfl
    have f2:DataW.trod enc Tryz.prog W 0 (fun _=>true) true n 136 (([c0,c1,c2,c3,c4,c5,c6,c7,c8].drop 2).take (Program.cellsOf Tryz.prog 136))=some y2:=hf 2 _ rfl
    rw [C2] at f2
    replace f2:DataW.trod enc Tryz.prog W 0 (fun _=>true) true n 136 [c2,c3,c4,c5]=some y2:=f2
    have C3:Program.cellsOf Tryz.prog 23=1:=by kernel_rfl
    have f3:DataW.trod enc Tryz.prog W 0 (fun _=>true) true n 23 (([c0,c1,c2,c3,c4,c5,c6,c7,c8].drop 6).take (Program.cellsOf Tryz.prog 23))=some y3:=hf 3 _ rfl
    rw [C3] at f3
    replace f3:DataW.trod enc Tryz.prog W 0 (fun _=>true) true n 23 [c6]=some y3:=f3
    have C4:Program.cellsOf Tryz.prog 39=1:=by kernel_rfl
    have f4:DataW.trod enc Tryz.prog W 0 (fun _=>true) true n 39 (([c0,c1,c2,c3,c4,c5,c6,c7,c8].drop 7).take (Program.cellsOf Tryz.prog 39))=some y4:=hf 4 _ rfl
    rw [C4] at f4
    replace f4:DataW.trod enc Tryz.prog W 0 (fun _=>true) true n 39 [c7]=some y4:=f4
    have C5:Program.cellsOf Tryz.prog 39=1:=by kernel_rfl
    have f5:DataW.trod enc Tryz.prog W 0 (fun _=>true) true n 39 (([c0,c1,c2,c3,c4,c5,c6,c7,c8].drop 8).take (Program.cellsOf Tryz.prog 39))=some y5:=hf 5 _ rfl
    rw [C5] at f5
    replace f5:DataW.trod enc Tryz.prog W 0 (fun _=>true) true n 39 [c8]=some y5:=f5
    obtain ⟨k0,o0,F0,l0⟩:=raw_of_trod f0
    obtain ⟨k1,e1,_,w1⟩:=DataW.trod_int Tryz.underlying3 f1
    obtain rfl:=List.singleton_inj.1 e1
    obtain ⟨k2,o2,F2,l2⟩:=Tree_of_trod _ _ _ f2
    obtain ⟨k3,o3,F3,l3⟩:=names_of_trod' f3
    obtain ⟨k4,o4,F4,l4⟩:=raw_of_trod f4
    obtain ⟨k5,o5,F5,l5⟩:=raw_of_trod f5
    refine ⟨⟨k0,k1,k2,k3,k4,k5⟩,?_,?_⟩
    ·rw [DObj.cells_top]
     simp only [oks,oks_app]
     exact ⟨o0,(num_ok_i64 k1).2 (i64_of_wf w1),o2,o3,o4,o5,trivial⟩
    ·rw [DObj.cells_top]
     exact ⟨_,((lies_one l0).append ((lies_one (lie_num W .i64 k1)).append (l2.append ((lies_one l3).append ((lies_one l4).append (lies_one l5))))))⟩
theorem ObjS_of_trod {fuel:Nat} {v:Value} {x:DataW H × List MemPlace} (h:DataW.trod enc Tryz.prog W 0 (fun _=>true) true fuel 22 [v]=some x):∃ l:List DObj,(seqOf 9 DObj.cells l).ok∧∃ F,Lie W (seqOf 9 DObj.cells l) v F :=
 row_of_trod (α:=DObj) (f:=DObj.cells) (n:=9) Tryz.underlying22 (by kernel_rfl) (by decide) (by decide) (fun m _ cs x hx=>Obj_of_trod m cs x hx) h
set_option maxRecDepth 100000 in
theorem Store_of_trod (fuel:Nat):∀ (cs:List Value) (x:DataW H × List MemPlace),DataW.trod enc Tryz.prog W 0 (fun _=>true) true fuel 26 cs=some x→∃ a:DStore,oks a.cells∧∃ F,Lies W a.cells cs F:=by
  intro cs x h
  obtain ⟨xs,n,hfu,hx,hlen,hxl,hf⟩:=DataW.trod_struct Tryz.underlying26 h
  have hC:Program.cellsOf Tryz.prog 26=3:=by kernel_rfl
  rw [hC] at hlen
  match cs,hlen,xs,hxl with
  | [c0,c1,c2],_,[y0,y1,y2],_ =>
    have C0:Program.cellsOf Tryz.prog 22=1:=by kernel_rfl
    have f0:DataW.trod enc Tryz.prog W 0 (fun _=>true) true n 22 (([c0,c1,c2].drop 0).take (Program.cellsOf Tryz.prog 22))=some y0:=hf 0 _ rfl
    rw [C0] at f0
    replace f0:DataW.trod enc Tryz.prog W 0 (fun _=>true) true n 22 [c0]=some y0:=f0
    have C1:Program.cellsOf Tryz.prog 23=1:=by kernel_rfl
    have f1:DataW.trod enc Tryz.prog W 0 (fun _=>true) true n 23 (([c0,c1,c2].drop 1).take (Program.cellsOf Tryz.prog 23))=some y1:=hf 1 _ rfl
    rw [C1] at f1
    replace f1:DataW.trod enc Tryz.prog W 0 (fun _=>true) true n 23 [c1]=some y1:=f1
    have C2:Program.cellsOf Tryz.prog 24=1:=by kernel_rfl
    have f2:DataW.trod enc Tryz.prog W 0 (fun _=>true) true n 24 (([c0,c1,c2].drop 2).take (Program.cellsOf Tryz.prog 24))=some y2:=hf 2 _ rfl
    rw [C2] at f2
    replace f2:DataW.trod enc Tryz.prog W 0 (fun _=>true) true n 24 [c2]=some y2:=f2
    obtain ⟨k0,o0,F0,l0⟩:=ObjS_of_trod f0
    obtain ⟨k1,o1,F1,l1⟩:=names_of_trod' f1
    obtain ⟨k2,o2,F2,l2⟩:=RealS_of_trod f2
    refine ⟨⟨k0,k1,k2⟩,?_,?_⟩
    ·rw [DStore.cells_top]
     simp only [oks,oks_app]
     exact ⟨o0,o1,o2,trivial⟩
    ·rw [DStore.cells_top]
     exact ⟨_,((lies_one l0).append ((lies_one l1).append (lies_one l2)))⟩
end
end Go.Proofs.YtgaadpkefncnmaaGreatDoor
/-
  The numbers of a struct lie in their bounds: field by field.
-/
namespace Go.Proofs.YtgaadpkefncnmaaGreatDoor
open Go.RowKit
set_option linter.unusedVariables false
set_option linter.unusedSimpArgs false
theorem flag_okT (b:Bool):(Cel.flag b).ok↔True:=by rw [Cel.ok]
theorem T.oks_iff (x:T):oks x.cells↔(-9223372036854775808≤x.kind∧x.kind≤9223372036854775807)∧Byt x.data∧BytN x.names∧(∀ y∈x.kids,oks y.cells):=by
 rw [x.cells_top]
 simp only [oks,oks_app,num_ok_i64,raw_ok,names_ok,ints_ok,seqOf_ok,flag_okT,BytN,and_true,true_and,and_assoc]
theorem DReal.oks_iff (x:DReal):oks x.cells↔Byt x.drv∧Byt x.out∧Byt x.path:=by
 rw [x.cells_top]
 simp only [oks,oks_app,num_ok_i64,raw_ok,names_ok,ints_ok,seqOf_ok,flag_okT,BytN,and_true,true_and,and_assoc]
theorem DOp.oks_iff (x:DOp):oks x.cells↔(-9223372036854775808≤x.code∧x.code≤9223372036854775807)∧(-9223372036854775808≤x.out∧x.out≤9223372036854775807)∧Byt x.name∧Byt x.text∧(-9223372036854775808≤x.arg∧x.arg≤9223372036854775807):=by
 rw [x.cells_top]
 simp only [oks,oks_app,num_ok_i64,raw_ok,names_ok,ints_ok,seqOf_ok,flag_okT,BytN,and_true,true_and,and_assoc]
theorem DIn.oks_iff (x:DIn):oks x.cells↔Byt x.drv∧Byt x.out:=by
 rw [x.cells_top]
 simp only [oks,oks_app,num_ok_i64,raw_ok,names_ok,ints_ok,seqOf_ok,flag_okT,BytN,and_true,true_and,and_assoc]
theorem DObj.oks_iff (x:DObj):oks x.cells↔Byt x.name∧(-9223372036854775808≤x.kind∧x.kind≤9223372036854775807)∧oks x.tree.cells∧BytN x.refs∧Byt x.frm∧Byt x.out:=by
 rw [x.cells_top]
 simp only [oks,oks_app,num_ok_i64,raw_ok,names_ok,ints_ok,seqOf_ok,flag_okT,BytN,and_true,true_and,and_assoc]
theorem DDrv.oks_iff (x:DDrv):oks x.cells↔BytN x.srcs∧(∀ y∈x.ins,oks y.cells)∧BytN x.outs∧(∀ y∈x.ops,oks y.cells):=by
 rw [x.cells_top]
 simp only [oks,oks_app,num_ok_i64,raw_ok,names_ok,ints_ok,seqOf_ok,flag_okT,BytN,and_true,true_and,and_assoc]
theorem DStore.oks_iff (x:DStore):oks x.cells↔(∀ y∈x.objs,oks y.cells)∧BytN x.roots∧(∀ y∈x.reals,oks y.cells):=by
 rw [x.cells_top]
 simp only [oks,oks_app,num_ok_i64,raw_ok,names_ok,ints_ok,seqOf_ok,flag_okT,BytN,and_true,true_and,and_assoc]
theorem DJob.oks_iff (x:DJob):oks x.cells↔oks x.d.cells∧Byt x.name∧(-9223372036854775808≤x.pc∧x.pc≤9223372036854775807)∧BytN x.args∧(∀ y∈x.outs,oks y.cells):=by
 rw [x.cells_top]
 simp only [oks,oks_app,num_ok_i64,raw_ok,names_ok,ints_ok,seqOf_ok,flag_okT,BytN,and_true,true_and,and_assoc]
theorem DGoal.oks_iff (x:DGoal):oks x.cells↔Byt x.drv∧(-9223372036854775808≤x.state∧x.state≤9223372036854775807)∧(-9223372036854775808≤x.err∧x.err≤9223372036854775807)∧True∧oks x.job.cells∧BytN x.need:=by
 rw [x.cells_top]
 simp only [oks,oks_app,num_ok_i64,raw_ok,names_ok,ints_ok,seqOf_ok,flag_okT,BytN,and_true,true_and,and_assoc]
theorem DEngine.oks_iff (x:DEngine):oks x.cells↔oks x.store.cells∧(∀ y∈x.goals,oks y.cells):=by
 rw [x.cells_top]
 simp only [oks,oks_app,num_ok_i64,raw_ok,names_ok,ints_ok,seqOf_ok,flag_okT,BytN,and_true,true_and,and_assoc]
theorem DReg.oks_iff (x:DReg):oks x.cells↔(-9223372036854775808≤x.kind∧x.kind≤9223372036854775807)∧oks x.obj.cells∧oks x.real.cells∧Byt x.name:=by
 rw [x.cells_top]
 simp only [oks,oks_app,num_ok_i64,raw_ok,names_ok,ints_ok,seqOf_ok,flag_okT,BytN,and_true,true_and,and_assoc]
theorem DJournal.oks_iff (x:DJournal):oks x.cells↔oks x.base.cells∧(∀ y∈x.regs,oks y.cells)∧(-9223372036854775808≤x.safe∧x.safe≤9223372036854775807):=by
 rw [x.cells_top]
 simp only [oks,oks_app,num_ok_i64,raw_ok,names_ok,ints_ok,seqOf_ok,flag_okT,BytN,and_true,true_and,and_assoc]
theorem DCmd.oks_iff (x:DCmd):oks x.cells↔(-9223372036854775808≤x.kind∧x.kind≤9223372036854775807)∧Byt x.text∧oks x.tree.cells∧Byt x.name∧Byt x.out∧(∀ y∈x.picks,-9223372036854775808≤y∧y≤9223372036854775807)∧(-9223372036854775808≤x.keep∧x.keep≤9223372036854775807):=by
 rw [x.cells_top]
 simp only [oks,oks_app,num_ok_i64,raw_ok,names_ok,ints_ok,seqOf_ok,flag_okT,BytN,and_true,true_and,and_assoc]
theorem DTold.oks_iff (x:DTold):oks x.cells↔(-9223372036854775808≤x.code∧x.code≤9223372036854775807)∧Byt x.name:=by
 rw [x.cells_top]
 simp only [oks,oks_app,num_ok_i64,raw_ok,names_ok,ints_ok,seqOf_ok,flag_okT,BytN,and_true,true_and,and_assoc]
end Go.Proofs.YtgaadpkefncnmaaGreatDoor
/-
  The program's placesByStart.
-/
namespace Go.Proofs.YtgaadpkefncnmaaGreatDoor
open Go.RowKit Go.Maps Go.ChangeShapes Go.WideMaps
set_option linter.unusedVariables false
set_option maxRecDepth 100000 in
set_option maxHeartbeats 1600000 in
theorem implPlaces {H:Type} (ns:List (List Int)) (h4:∀ n∈ns,4≤n.length∧Byt n) (v:Value) (w:World) (hv:RdN w v ns) (hn:ns.length≤1048576) :
  Calls Tryz.prog 219 #[v] w fun e w'=>e=.returned (.map (some w.heap.size))∧(∃ D:DataW H,w'.ownsGroups Tryz.prog 9 (w.heap.size + 1) 3 .i64 w.heap.size ns.length D∧Grp D ns ns.length)∧Below w.heap.size w w'∧w.heap.size + 1≤w'.heap.size:=by
 have hmm:=@run_makeMap Tryz.prog
 obtain ⟨i0,hi,hz0,hz1,hz2⟩:=info_parts intsInfo
 obtain ⟨A,c,rfl,hc1,hc2⟩:=names_len hv
 obtain ⟨N,hN⟩:∃ N,ns.length=N:=⟨_,rfl⟩
 rw [hN] at hc1 hv hn ⊢
 unfold maxLen at hc2
 have HNL:=hide hN
 have HNN:=hide hv
 have H4:=hide h4
 clear hN hv h4
 go_enter Tryz.func219,Tryz.ntmps219
 go_wp2
 go_loopw [10] (fun i wr=>∃ k:Nat,k≤N∧i=.int .i64 k∧Hid (∃ D:DataW H,wr.ownsGroups Tryz.prog 9 (w.heap.size + 1) 3 .i64 w.heap.size k D∧Grp D ns k)∧Below w.heap.size w wr∧w.heap.size + 1≤wr.heap.size)
  (fun i _=>N - (intOf i).toNat)
 case atStart=>exact ⟨0,Nat.zero_le _,rfl,hide ⟨_,World.ownsGroups_made _ _ _ _ _,Grp.nil ns⟩,(Below.refl _ _).alloc (Nat.le_refl _) _,by simp⟩
 case round =>
  obtain ⟨k,hk,rfl,HO,hnx,hws⟩:=hrel
  by_cases hlt:k < N
  ·have hkn:k < ns.length:=by rw [HNL.out]; exact hlt
   obtain ⟨b,off,x,hA',hblt,cx,rx⟩:=HNN.out.get hkn
   subst hA'
   have q1:=(hnx.cell (p:=⟨b,off + k,none⟩) hblt).trans cx
   have rr1:=rx.below hnx
   have hmk:ns.getD k []∈ns:=by simp [List.getD,List.getElem?_eq_getElem hkn]
   obtain ⟨hl4,hBn⟩:=H4.out _ hmk
   obtain ⟨D,hown,hgrp⟩:=HO.out
   obtain ⟨s,hs⟩:∃ s,s=(ns.getD k []).take 4:=⟨_,rfl⟩
   have hsB:Byt s:=by rw [hs]; exact fun y hy=>hBn y (List.mem_of_mem_take hy)
   have hsl:s.length=4:=by rw [hs,List.length_take]; omega
   obtain ⟨A1,c1,rfl,hd1,hd2,hrd⟩:=rr1
   rw [bs_length] at hd1 hrd q1
   obtain ⟨b1,o1,rfl,hb1,hcell⟩:=hrd (by omega)
   have hp:Rd wr (.slice (some ⟨b1,o1,none⟩) 4 c1) (bs s):=by
    have:=Rd.part (w:=wr) (k:=0) (n:=4) hcell hb1 (by omega) hd1 hd2 (n':=4) rfl
    rw [hs]
    simpa using this
   have hcv:=conv_rd (P:=Tryz.prog) Tryz.underlying39 Tryz.underlying5 Tryz.underlying9 hp
   have hkey:=keyOf_s (s:=s) (by omega)
   have HG:=hide hgrp
   have HK:=hide hs.symm
   have HSB:=hide hsB
   have HB:=hide hnx
   have hcap4:4≤c1:=by omega
   obtain ⟨L,hL⟩:∃ L,(ns.getD k []).length=L:=⟨_,rfl⟩
   rw [hL] at q1 hl4 hd1
   unfold maxLen at hd2
   clear hp hs hgrp hsB rx cx hcell hrd HO hsl hBn hmk hL
   go_wp2_with (first
    | (at_lookup; refine wpList_lookup_groups _ rfl _ _ 240 rfl 9 242 3 .i64 strLaw Tryz.underlying240 (intsZero _) (w.heap.size + 1) w.heap.size k _ rfl hown (by unfold maxLen; omega) _ _ rfl hkey ?_; intro v zs hat hoi hzl hback)
    | (at_builtin; refine wpList_append_own_at _ rfl _ _ 242 rfl (w.heap.size + 1) 3 i0 (.int .i64 0) 1 8 Tryz.underlying242 hi hz0 hz1 hz2 rfl (by decide) _ _ _ rfl (hoi.1.alloc _) ⟨wr.heap.size,0,none⟩ 1 1 [.int .i64 k] rfl rfl (cell_one_new _ _ _) (ints_oneCell .i64 [(k:Int)]) (by unfold maxLen; omega) (by omega) (by simp; omega) ?_; intro v' w1 hown' hgrow hnil hloc)
    | (at_mapUpdate; refine wpList_mapUpdate_back _ rfl _ _ _ 240 rfl hback rfl rfl rfl ((World.grownBy_alloc _ _ _).trans hgrow) (hoi.appended hown' (WalkArith.wf_i64 (by omega))) (by simp; omega) (hloc.imp id (fun h=>⟨_,h,by simp⟩)) ?_; intro w2 hown2 hgrow2))
   have hall:=(World.grownBy_alloc wr _ _).trans hgrow
   have HS2:Hid (∃ D:DataW H,w2.ownsGroups Tryz.prog 9 (w.heap.size + 1) 3 .i64 w.heap.size (k + 1) D∧Grp D ns (k + 1)):=hide (by
    have hd:=(hoi.appended hown' (WalkArith.wf_i64 (by omega))).datum_pos (H:=H) (by simp)
    have hg2:Grp (D.put (keyS s) (rowDatum .i64 v' (zs++[(k:Int)]))) ns (k + 1):=by
     rw [hd,HG.out.row HSB.out hoi hat]
     exact HG.out.step HSB.out HK.out
    exact ⟨_,hown2,hg2⟩)
   have HB2:=hide (HB.out.groups hoi hall hgrow2 HB.out.size (Nat.le_succ _) (Nat.le_refl _))
   have HW2:=hide (Nat.le_trans hws (Nat.le_trans hall.size hgrow2.size))
   go_roundw
   case rel=>exact ⟨k + 1,by omega,by go_num,HS2,HB2.out,HW2.out⟩
   case measure=>simp [intOf]; omega
  ·obtain rfl:k=N:=by omega
   go_wp2
   go_ret
   exact ⟨rfl,HO.out,hnx,hws⟩
end Go.Proofs.YtgaadpkefncnmaaGreatDoor
/-
  Trees as cells, read as before.
-/
namespace Go.Proofs.YtgaadpkefncnmaaGreatDoor
open Go.RowKit
set_option linter.unusedVariables false
theorem Lies.trees {w:World} (ks:List T) (ih:∀ t∈ks,∀ us F,Lies w t.cells us F→∃ q:Q,us=q.cells∧TIn w t q):∀ {us:List Value} {F:List Nat},Lies w (T.cellss ks) us F→∃ qs,us=qcells qs∧TIns w ks qs:=by
 induction ks with
 | nil =>
   intro us F h
   rw [T.cellss,Lies] at h
   exact ⟨[],h.1,by rw [TIns]⟩
 | cons t ks ihk =>
   intro us F h
   rw [T.cellss] at h
   obtain ⟨ua,ub,Fa,Fb,rfl,rfl,h1,h2⟩:=h.parts
   obtain ⟨q,rfl,hq⟩:=ih t (List.mem_cons_self ..) _ _ h1
   obtain ⟨qs,rfl,hqs⟩:=ihk (fun t ht=>ih t (List.mem_cons_of_mem _ ht)) h2
   exact ⟨q :: qs,rfl,by rw [TIns]; exact ⟨q,qs,rfl,hq,hqs⟩⟩
theorem qcells_at:∀ {qs:List Q} {i:Nat} {q:Q},qs[i]? = some q→(qcells qs)[4 * i]? = some (.int .i64 q.k)∧(qcells qs)[4 * i + 1]? = some q.d∧(qcells qs)[4 * i + 2]? = some q.n∧(qcells qs)[4 * i + 3]? = some q.c
 | [],i,q,h=>by simp at h
 | q0 :: qs,0,q,h=>by
   obtain rfl:q0=q:=by simpa using h
   exact ⟨rfl,rfl,rfl,rfl⟩
 | q0 :: qs,i + 1,q,h=>by
   have:=qcells_at (qs:=qs) (i:=i) (by simpa using h)
   have e:4 * (i + 1)=(4 * i) + 4:=by omega
   rw [e]
   exact this
theorem Rdc.rd4 {w:World} {v:Value} {n:Nat} {qs:List Q} (h:Rdc w v 4 n (qcells qs)):Rd4 w v qs:=by
 obtain ⟨A,c,rfl,h1,h2,h3,h4⟩:=h
 rw [qcells_len] at h3
 obtain rfl:n=qs.length:=by omega
 refine ⟨A,c,rfl,h1,h2,fun hp=>?_⟩
 obtain ⟨b,off,rfl,hb,hr⟩:=h4 hp
 refine ⟨b,off,rfl,hb,fun i q hq=>?_⟩
 obtain ⟨c0,c1,c2,c3⟩:=qcells_at hq
 exact ⟨hr _ _ c0,hr _ _ c1,hr _ _ c2,hr _ _ c3⟩
theorem Lies.tin {w:World} : ∀ (t:T) {us:List Value} {F:List Nat},Lies w t.cells us F→∃ q:Q,us=q.cells∧TIn w t q:=by
 intro t
 induction t using T.ind with
 | h k d ns ks ih =>
   intro us F h
   rw [T.cells,Lies] at h
   obtain ⟨u0,r0,F0,G0,rfl,rfl,h0,h⟩:=h
   rw [Lies] at h
   obtain ⟨u1,r1,F1,G1,rfl,rfl,h1,h⟩:=h
   rw [Lies] at h
   obtain ⟨u2,r2,F2,G2,rfl,rfl,h2,h⟩:=h
   rw [Lies] at h
   obtain ⟨u3,r3,F3,G3,rfl,rfl,h3,h⟩:=h
   rw [Lies] at h
   obtain ⟨rfl,rfl⟩:=h
   rw [Lie] at h0
   obtain ⟨rfl,rfl⟩:=h0
   rw [Lie] at h3
   obtain ⟨_,us,F5,k1,k2,rfl⟩:=h3
   obtain ⟨qs,rfl,hqs⟩:=k2.trees ks fun t ht us F h=>ih t ht h
   refine ⟨⟨k,u1,u2,u3⟩,rfl,?_⟩
   rw [TIn]
   exact ⟨rfl,h1.rd.1,h2.rdN,qs,k1.rd4,hqs⟩
theorem Ins.tin {w:World} {t:T} {us:List Value} (h:Ins w t.cells us):∃ q:Q,us=q.cells∧TIn w t q:=h.elim fun F h=>h.tin t
end Go.Proofs.YtgaadpkefncnmaaGreatDoor
/-
  The laws' copies of trees: the walks.
-/
namespace Go.Proofs.YtgaadpkefncnmaaGreatDoor
open Go.RowKit
set_option linter.unusedVariables false
theorem T.bulks_mem {ts:List T} {t:T} (h:t∈ts):t.bulk≤T.bulks ts:=by
 induction ts with
 | nil=>cases h
 | cons t0 ts ih =>
   rw [T.bulks]
   rcases List.mem_cons.1 h with rfl | h
   ·omega
   ·have:=ih h; omega
theorem row_slice {w:World} {lo size:Nat} {e:TypeId} {n:Nat} {v:Value} {xs:List Value} (h:w.ownsRow lo e size v n xs):∃ A c,v=.slice A n c∧n≤c∧c≤maxLen:=by
 rcases h.2 with ⟨rfl,h0⟩ | ⟨g,cap,cur,hv,hb,hg,hnc,hcm,_⟩
 ·exact ⟨none,0,by rw [h0],by omega,Nat.zero_le _⟩
 ·exact ⟨_,cap,hv,hnc,hcm⟩
theorem TOwn.form {w:World} {t:T} {lo hi:Nat} {q:Q} (h:TOwn w t lo q hi):(∃ A n c,q.d=.slice A n c)∧(∃ A n c,q.n=.slice A n c)∧(∃ A n c,q.c=.slice A n c):=by
 cases t with
 | node k d ns ks =>
   rw [TOwn] at h
   obtain ⟨_,m1,m2,m3,qs,_,_,h4,⟨us,m,h5,_,_⟩,h6,_⟩:=h
   obtain ⟨A,c,e,_,_⟩:=row_slice h4.1
   obtain ⟨A',c',e',_,_⟩:=row_slice h5.1
   obtain ⟨A'',c'',e'',_,_⟩:=row_slice h6.1
   exact ⟨⟨_,_,_,e⟩,⟨_,_,_,e'⟩,⟨_,_,_,e''⟩⟩
theorem TOwn.one {w:World} {t:T} {lo hi:Nat} {q:Q} (h:TOwn w t lo q hi):(#[.int .i64 q.k,q.d,q.n,q.c]:Array Value).all (·.oneCell')=true:=by
 obtain ⟨⟨A,n,c,e⟩,⟨A',n',c',e'⟩,⟨A'',n'',c'',e''⟩⟩:=h.form
 rw [e,e',e'']
 simp [Value.oneCell']
/-- A block of a tree's four cells. -/
def C4 (w:World) (g:Nat) (t:TypeId) (a b c d:Value):Prop:=w.heap[g]? = some (.cells #[a,b,c,d] t (0,0))
section
variable {w w' : World} {g:Nat} {t:TypeId} {a b c d:Value}
theorem C4.lt (h:C4 w g t a b c d):g < w.heap.size:=(Array.getElem?_eq_some_iff.1 h).1
theorem C4.c0 (h:C4 w g t a b c d):w.cell? ⟨g,0,none⟩=some a:=by rw [cell_of_row w g 0 _ _ (0,0) h]; rfl
theorem C4.c1 (h:C4 w g t a b c d):w.cell? ⟨g,1,none⟩=some b:=by rw [cell_of_row w g 1 _ _ (0,0) h]; rfl
theorem C4.c2 (h:C4 w g t a b c d):w.cell? ⟨g,2,none⟩=some c:=by rw [cell_of_row w g 2 _ _ (0,0) h]; rfl
theorem C4.c3 (h:C4 w g t a b c d):w.cell? ⟨g,3,none⟩=some d:=by rw [cell_of_row w g 3 _ _ (0,0) h]; rfl
theorem C4.fz (h:C4 w g t a b c d) (j:Nat):w.frozen? ⟨g,j,none⟩=false:=frozen_of_row w g j _ _ h
theorem C4.step (h:C4 w g t a b c d) (hb:Below w.heap.size w w'):C4 w' g t a b c d:=(hb.block g h.lt).trans h
theorem C4.set1 (h:C4 w g t a b c d) (x:Value):C4 (w.setCell ⟨g,1,none⟩ x) g t a x c d:=heap_setCell_same w g 1 _ _ _ h
theorem C4.set2 (h:C4 w g t a b c d) (x:Value):C4 (w.setCell ⟨g,2,none⟩ x) g t a b x d:=heap_setCell_same w g 2 _ _ _ h
theorem C4.set3 (h:C4 w g t a b c d) (x:Value):C4 (w.setCell ⟨g,3,none⟩ x) g t a b c x:=heap_setCell_same w g 3 _ _ _ h
theorem C4.set0 (h:C4 w g t a b c d) (x:Value):C4 (w.setCell ⟨g,0,none⟩ x) g t x b c d:=heap_setCell_same w g 0 _ _ _ h
theorem C4.all (h:C4 w g t a b c d) (x0 x1 x2 x3:Value):C4 (w.setCells g 0 [x0,x1,x2,x3]) g t x0 x1 x2 x3:=(((h.set0 x0).set1 x1).set2 x2).set3 x3
theorem C4.there (h:C4 w g t a b c d):w.there g 0 4:=fun j hj=>by
 refine ⟨?_,h.fz _⟩
 rw [Nat.zero_add]
 rcases (by omega:j=0∨j=1∨j=2∨j=3) with rfl | rfl | rfl | rfl
 ·rw [h.c0]; rfl
 ·rw [h.c1]; rfl
 ·rw [h.c2]; rfl
 ·rw [h.c3]; rfl
theorem C4.out {lo hi:Nat} (h:C4 w g t a b c d) (ho:Outside lo hi w w') (hd:g < lo∨hi≤g):C4 w' g t a b c d:=(ho.block g h.lt hd).trans h
end
end Go.Proofs.YtgaadpkefncnmaaGreatDoor
/-
  Derivations in plain lists: their encoding.
-/
namespace Go.Proofs.YtgaadpkefncnmaaGreatDoor
open Go.RowKit
set_option linter.unusedVariables false
end Go.Proofs.YtgaadpkefncnmaaGreatDoor
/-
  What a round keeps.
-/
namespace Go.Proofs.YtgaadpkefncnmaaGreatDoor
open Go.RowKit
set_option linter.unusedVariables false
/-- What a round keeps: what lay below n₀, and every block of a node or a tree. -/
structure Holds (n₀:Nat) (W W' : World):Prop where
 below:Below n₀ W W'
 rows:∀ (k:Nat) (cs:Array Value) (t:TypeId) (r:Nat × Nat),W.heap[k]? = some (Obj.cells cs t r)→(t=219∨t=47)→W'.heap[k]? = some (Obj.cells cs t r)
theorem Holds.refl (n₀:Nat) (W:World):Holds n₀ W W:=⟨Below.refl _ _,fun _ _ _ _ h _=>h⟩
theorem Holds.trans {n₀:Nat} {A B C:World} (h:Holds n₀ A B) (k:Holds n₀ B C):Holds n₀ A C:=⟨h.below.trans k.below,fun i cs t r hi ht=>k.rows i cs t r (h.rows i cs t r hi ht) ht⟩
theorem Holds.of_below {n₀:Nat} {W W' : World} (h:Below W.heap.size W W') (hn:n₀≤W.heap.size):Holds n₀ W W':=⟨h.mono hn,fun k cs t r hk _=>(h.block k (Array.getElem?_eq_some_iff.1 hk).1).trans hk⟩
theorem Holds.size {n₀:Nat} {W W' : World} (h:Holds n₀ W W'):W.heap.size≤W'.heap.size:=h.below.size
theorem C4.holds {n₀:Nat} {w w' : World} {g:Nat} {a b c d:Value} (h:C4 w g 47 a b c d) (hh:Holds n₀ w w'):C4 w' g 47 a b c d:=hh.rows g _ _ _ h (.inr rfl)
/-- An append to an owned row of bytes keeps every node and every tree. -/
theorem holds_row {w w' : World} {lo size n:Nat} {v:Value} {xs:List Value} (h:w.ownsRow lo 5 size v n xs) (hg:w.grownBy w' v.ownBlock) (hl:lo≤w.heap.size):Holds lo w w':=by
 refine ⟨(Below.refl lo w).grown hg hl fun g hgk=>(h.lt g hgk).1,fun k cs t r hk ht=>?_⟩
 refine (hg.block k (Array.getElem?_eq_some_iff.1 hk).1 (fun e=>?_)).trans hk
 rcases h.2 with ⟨rfl,_⟩ | ⟨g,cap,cur,rfl,_,hgb,_⟩
 ·simp [Value.ownBlock] at e
 ·obtain rfl:k=g:=by simpa [Value.ownBlock] using e
  rw [hgb] at hk
  injection hk with hk
  injection hk with _ hk _
  rcases ht with ht | ht
  ·exact absurd (hk.trans ht) (by decide)
  ·exact absurd (hk.trans ht) (by decide)
end Go.Proofs.YtgaadpkefncnmaaGreatDoor
/-
  The model's l4realCmp.
-/
namespace Go.Proofs.YtgaadpkefncnmaaGreatDoor
open Go.RowKit
set_option linter.unusedVariables false
set_option linter.unusedSimpArgs false
/-- Realisations in order: by derivation, then by output. -/
def realCmp (a b:DReal):Int:=if a.drv=b.drv then (if lessL a.out b.out then -1 else if a.out=b.out then 0 else 1) else if lessL a.drv b.drv then -1 else 1
set_option maxRecDepth 20000 in
set_option maxHeartbeats 1600000 in
theorem specRealCmp (a b:DReal) (ha:oks a.cells) (hb:oks b.cells) (ua ub:List Value) (w:World) (hsa:Ins w a.cells ua) (hsb:Ins w b.cells ub) :
  Calls Tryz.prog 112 #[.agg ua.toArray,.agg ub.toArray] w fun e w'=>e=.returned (.int .i64 (realCmp a b))∧Below w.heap.size w w':=by
 obtain ⟨Aa0,ca0,Aa1,ca1,Aa2,ca2,rfl,ha0,ha1,ha2⟩:=DReal.view hsa
 obtain ⟨Ab0,cb0,Ab1,cb1,Ab2,cb2,rfl,hb0,hb1,hb2⟩:=DReal.view hsb
 obtain ⟨wa,hwa⟩:∃ wa,w.alloc (.cells #[.slice Aa0 a.drv.length ca0,.slice Aa1 a.out.length ca1,.slice Aa2 a.path.length ca2] 106)=wa:=⟨_,rfl⟩
 have baa:Below w.heap.size w wa:=by rw [← hwa]; exact (Below.refl _ _).alloc (Nat.le_refl _) _
 have bxa:Box wa w.heap.size 106 [.slice Aa0 a.drv.length ca0,.slice Aa1 a.out.length ca1,.slice Aa2 a.path.length ca2]:=by rw [← hwa]; exact Box.new w _ _
 have hza:w.heap.size < wa.heap.size:=bxa.lt
 obtain ⟨wb,hwb⟩:∃ wb,wa.alloc (.cells #[.slice Ab0 b.drv.length cb0,.slice Ab1 b.out.length cb1,.slice Ab2 b.path.length cb2] 106)=wb:=⟨_,rfl⟩
 have bab:Below wa.heap.size wa wb:=by rw [← hwb]; exact (Below.refl _ _).alloc (Nat.le_refl _) _
 have bxb:Box wb wa.heap.size 106 [.slice Ab0 b.drv.length cb0,.slice Ab1 b.out.length cb1,.slice Ab2 b.path.length cb2]:=by rw [← hwb]; exact Box.new wa _ _
 have hzb:wa.heap.size < wb.heap.size:=bxb.lt
 have bel:Below w.heap.size w wb:=baa.trans (bab.mono baa.size)
 have bxa2:=bxa.step bab
 have x0:=bxa2.cell (j:=0) rfl
 have x1:=bxa2.cell (j:=1) rfl
 have z0:=bxb.cell (j:=0) rfl
 have z1:=bxb.cell (j:=1) rfl
 obtain ⟨oa0,oa1,oa2⟩:=(DReal.oks_iff a).1 ha
 obtain ⟨ob0,ob1,ob2⟩:=(DReal.oks_iff b).1 hb
 have c0:=conv_rd (P:=Tryz.prog) Tryz.underlying39 Tryz.underlying5 Tryz.underlying9 (ha0.step bel).rd
 have c1:=conv_rd (P:=Tryz.prog) Tryz.underlying39 Tryz.underlying5 Tryz.underlying9 (ha1.step bel).rd
 have d0:=conv_rd (P:=Tryz.prog) Tryz.underlying39 Tryz.underlying5 Tryz.underlying9 (hb0.step bel).rd
 have d1:=conv_rd (P:=Tryz.prog) Tryz.underlying39 Tryz.underlying5 Tryz.underlying9 (hb1.step bel).rd
 have e0:=str_eq oa0 ob0
 have e1:=less_str oa0 ob0
 have e2:=less_str oa1 ob1
 have e3:=str_eq oa1 ob1
 have hR:=show realCmp a b=if a.drv=b.drv then (if lessL a.out b.out then -1 else if a.out=b.out then 0 else 1) else if lessL a.drv b.drv then -1 else 1 from rfl
 have HR:=hide hR
 have HBE:=hide bel
 generalize strOfNums a.drv=s1 at *
 generalize strOfNums a.out=s2 at *
 generalize strOfNums b.drv=s3 at *
 generalize strOfNums b.out=s4 at *
 clear hR bxa bxb bxa2 ha0 ha1 ha2 hb0 hb1 hb2 baa bab hsa hsb
 go_enter Tryz.func112,Tryz.ntmps112
 by_cases hd:a.drv=b.drv
 ·rw [decide_eq_true hd] at e0
  cases h2:lessL a.out b.out with
  | true =>
    rw [h2] at e2
    have hr:realCmp a b = -1:=by rw [HR.out,if_pos hd,h2]; rfl
    have HR2:=hide hr
    clear hr h2 hd
    go_wp2_with fail
    go_ret
    exact ⟨ret_i64 HR2.out.symm,HBE.out⟩
  | false =>
    rw [h2] at e2
    by_cases h3:a.out=b.out
    ·rw [decide_eq_true h3] at e3
     have hr:realCmp a b=0:=by rw [HR.out,if_pos hd,h2,if_pos h3]; rfl
     have HR2:=hide hr
     clear hr h2 h3 hd
     go_wp2_with fail
     go_ret
     exact ⟨ret_i64 HR2.out.symm,HBE.out⟩
    ·rw [decide_eq_false h3] at e3
     have hr:realCmp a b=1:=by rw [HR.out,if_pos hd,h2,if_neg h3]; rfl
     have HR2:=hide hr
     clear hr h2 h3 hd
     go_wp2_with fail
     go_ret
     exact ⟨ret_i64 HR2.out.symm,HBE.out⟩
 ·rw [decide_eq_false hd] at e0
  cases h2:lessL a.drv b.drv with
  | true =>
    rw [h2] at e1
    have hr:realCmp a b = -1:=by rw [HR.out,if_neg hd,h2]; rfl
    have HR2:=hide hr
    clear hr h2 hd
    go_wp2_with fail
    go_ret
    exact ⟨ret_i64 HR2.out.symm,HBE.out⟩
  | false =>
    rw [h2] at e1
    have hr:realCmp a b=1:=by rw [HR.out,if_neg hd,h2]; rfl
    have HR2:=hide hr
    clear hr h2 hd
    go_wp2_with fail
    go_ret
    exact ⟨ret_i64 HR2.out.symm,HBE.out⟩
end Go.Proofs.YtgaadpkefncnmaaGreatDoor
/-
  The laws' comparison of trees.
-/
namespace Go.Proofs.YtgaadpkefncnmaaGreatDoor
open Go.RowKit
set_option linter.unusedVariables false
end Go.Proofs.YtgaadpkefncnmaaGreatDoor
