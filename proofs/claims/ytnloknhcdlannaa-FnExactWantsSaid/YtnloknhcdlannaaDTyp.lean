
/-
  The data of the laws.
-/
import Derived.Test.YtnloknhcdlannaaDatT
import Derived.Test.YtnloknhcdlannaaDatV
namespace Go.Proofs.Ytnloknhcdlannaa
open Go.RowKit
set_option linter.unusedVariables false

theorem T.cells_len (t : T) : t.cells.length = 4 := by rw [t.cells_eq]; rfl
theorem T.cells_top (x : T) : x.cells = (.num .i64 x.kind :: (raw x.data :: (Go.Proofs.Ytnloknhcdlannaa.names x.names :: (seqOf 4 T.cells x.kids :: [])))) := x.cells_eq
structure DReal where
  drv : List Int
  out : List Int
  path : List Int
def DReal.cells (x : DReal) : List Cel := (raw x.drv :: (raw x.out :: (raw x.path :: [])))
theorem DReal.cells_top (x : DReal) : x.cells = (raw x.drv :: (raw x.out :: (raw x.path :: []))) := rfl
theorem DReal.cells_eq (x : DReal) : x.cells = [raw x.drv, raw x.out, raw x.path] := by rw [DReal.cells] <;> rfl
theorem DReal.cells_len (x : DReal) : x.cells.length = 3 := by rw [x.cells_eq]; rfl
structure DOp where
  code : Int
  out : Int
  name : List Int
  text : List Int
  arg : Int
def DOp.cells (x : DOp) : List Cel := (.num .i64 x.code :: (.num .i64 x.out :: (raw x.name :: (raw x.text :: (.num .i64 x.arg :: [])))))
theorem DOp.cells_top (x : DOp) : x.cells = (.num .i64 x.code :: (.num .i64 x.out :: (raw x.name :: (raw x.text :: (.num .i64 x.arg :: []))))) := rfl
theorem DOp.cells_eq (x : DOp) : x.cells = [.num .i64 x.code, .num .i64 x.out, raw x.name, raw x.text, .num .i64 x.arg] := by rw [DOp.cells] <;> rfl
theorem DOp.cells_len (x : DOp) : x.cells.length = 5 := by rw [x.cells_eq]; rfl
structure DIn where
  drv : List Int
  out : List Int
def DIn.cells (x : DIn) : List Cel := (raw x.drv :: (raw x.out :: []))
theorem DIn.cells_top (x : DIn) : x.cells = (raw x.drv :: (raw x.out :: [])) := rfl
theorem DIn.cells_eq (x : DIn) : x.cells = [raw x.drv, raw x.out] := by rw [DIn.cells] <;> rfl
theorem DIn.cells_len (x : DIn) : x.cells.length = 2 := by rw [x.cells_eq]; rfl
structure DObj where
  name : List Int
  kind : Int
  tree : T
  refs : List (List Int)
  frm : List Int
  out : List Int
def DObj.cells (x : DObj) : List Cel := (raw x.name :: (.num .i64 x.kind :: (x.tree.cells ++ (Go.Proofs.Ytnloknhcdlannaa.names x.refs :: (raw x.frm :: (raw x.out :: []))))))
theorem DObj.cells_top (x : DObj) : x.cells = (raw x.name :: (.num .i64 x.kind :: (x.tree.cells ++ (Go.Proofs.Ytnloknhcdlannaa.names x.refs :: (raw x.frm :: (raw x.out :: [])))))) := rfl
theorem DObj.cells_eq (x : DObj) : x.cells = [raw x.name, .num .i64 x.kind, .num .i64 x.tree.kind, raw x.tree.data, Go.Proofs.Ytnloknhcdlannaa.names x.tree.names, seqOf 4 T.cells x.tree.kids, Go.Proofs.Ytnloknhcdlannaa.names x.refs, raw x.frm, raw x.out] := by rw [DObj.cells, T.cells_eq] <;> rfl
theorem DObj.cells_len (x : DObj) : x.cells.length = 9 := by rw [x.cells_eq]; rfl
structure DDrv where
  srcs : List (List Int)
  ins : List DIn
  outs : List (List Int)
  ops : List DOp
def DDrv.cells (x : DDrv) : List Cel := (Go.Proofs.Ytnloknhcdlannaa.names x.srcs :: (seqOf 2 DIn.cells x.ins :: (Go.Proofs.Ytnloknhcdlannaa.names x.outs :: (seqOf 5 DOp.cells x.ops :: []))))
theorem DDrv.cells_top (x : DDrv) : x.cells = (Go.Proofs.Ytnloknhcdlannaa.names x.srcs :: (seqOf 2 DIn.cells x.ins :: (Go.Proofs.Ytnloknhcdlannaa.names x.outs :: (seqOf 5 DOp.cells x.ops :: [])))) := rfl
theorem DDrv.cells_eq (x : DDrv) : x.cells = [Go.Proofs.Ytnloknhcdlannaa.names x.srcs, seqOf 2 DIn.cells x.ins, Go.Proofs.Ytnloknhcdlannaa.names x.outs, seqOf 5 DOp.cells x.ops] := by rw [DDrv.cells] <;> rfl
theorem DDrv.cells_len (x : DDrv) : x.cells.length = 4 := by rw [x.cells_eq]; rfl
structure DStore where
  objs : List DObj
  roots : List (List Int)
  reals : List DReal
def DStore.cells (x : DStore) : List Cel := (seqOf 9 DObj.cells x.objs :: (Go.Proofs.Ytnloknhcdlannaa.names x.roots :: (seqOf 3 DReal.cells x.reals :: [])))
theorem DStore.cells_top (x : DStore) : x.cells = (seqOf 9 DObj.cells x.objs :: (Go.Proofs.Ytnloknhcdlannaa.names x.roots :: (seqOf 3 DReal.cells x.reals :: []))) := rfl
theorem DStore.cells_eq (x : DStore) : x.cells = [seqOf 9 DObj.cells x.objs, Go.Proofs.Ytnloknhcdlannaa.names x.roots, seqOf 3 DReal.cells x.reals] := by rw [DStore.cells] <;> rfl
theorem DStore.cells_len (x : DStore) : x.cells.length = 3 := by rw [x.cells_eq]; rfl
structure DJob where
  d : DDrv
  name : List Int
  pc : Int
  args : List (List Int)
  outs : List T
def DJob.cells (x : DJob) : List Cel := (x.d.cells ++ (raw x.name :: (.num .i64 x.pc :: (Go.Proofs.Ytnloknhcdlannaa.names x.args :: (seqOf 4 T.cells x.outs :: [])))))
theorem DJob.cells_top (x : DJob) : x.cells = (x.d.cells ++ (raw x.name :: (.num .i64 x.pc :: (Go.Proofs.Ytnloknhcdlannaa.names x.args :: (seqOf 4 T.cells x.outs :: []))))) := rfl
theorem DJob.cells_eq (x : DJob) : x.cells = [Go.Proofs.Ytnloknhcdlannaa.names x.d.srcs, seqOf 2 DIn.cells x.d.ins, Go.Proofs.Ytnloknhcdlannaa.names x.d.outs, seqOf 5 DOp.cells x.d.ops, raw x.name, .num .i64 x.pc, Go.Proofs.Ytnloknhcdlannaa.names x.args, seqOf 4 T.cells x.outs] := by rw [DJob.cells, DDrv.cells_eq] <;> rfl
theorem DJob.cells_len (x : DJob) : x.cells.length = 8 := by rw [x.cells_eq]; rfl
structure DGoal where
  drv : List Int
  state : Int
  err : Int
  begun : Bool
  job : DJob
  need : List (List Int)
def DGoal.cells (x : DGoal) : List Cel := (raw x.drv :: (.num .i64 x.state :: (.num .i64 x.err :: (.flag x.begun :: (x.job.cells ++ (Go.Proofs.Ytnloknhcdlannaa.names x.need :: []))))))
theorem DGoal.cells_top (x : DGoal) : x.cells = (raw x.drv :: (.num .i64 x.state :: (.num .i64 x.err :: (.flag x.begun :: (x.job.cells ++ (Go.Proofs.Ytnloknhcdlannaa.names x.need :: [])))))) := rfl
theorem DGoal.cells_eq (x : DGoal) : x.cells = [raw x.drv, .num .i64 x.state, .num .i64 x.err, .flag x.begun, Go.Proofs.Ytnloknhcdlannaa.names x.job.d.srcs, seqOf 2 DIn.cells x.job.d.ins, Go.Proofs.Ytnloknhcdlannaa.names x.job.d.outs, seqOf 5 DOp.cells x.job.d.ops, raw x.job.name, .num .i64 x.job.pc, Go.Proofs.Ytnloknhcdlannaa.names x.job.args, seqOf 4 T.cells x.job.outs, Go.Proofs.Ytnloknhcdlannaa.names x.need] := by rw [DGoal.cells, DJob.cells_eq] <;> rfl
theorem DGoal.cells_len (x : DGoal) : x.cells.length = 13 := by rw [x.cells_eq]; rfl
structure DEngine where
  store : DStore
  goals : List DGoal
def DEngine.cells (x : DEngine) : List Cel := (x.store.cells ++ (seqOf 13 DGoal.cells x.goals :: []))
theorem DEngine.cells_top (x : DEngine) : x.cells = (x.store.cells ++ (seqOf 13 DGoal.cells x.goals :: [])) := rfl
theorem DEngine.cells_eq (x : DEngine) : x.cells = [seqOf 9 DObj.cells x.store.objs, Go.Proofs.Ytnloknhcdlannaa.names x.store.roots, seqOf 3 DReal.cells x.store.reals, seqOf 13 DGoal.cells x.goals] := by rw [DEngine.cells, DStore.cells_eq] <;> rfl
theorem DEngine.cells_len (x : DEngine) : x.cells.length = 4 := by rw [x.cells_eq]; rfl
structure DReg where
  kind : Int
  obj : DObj
  real : DReal
  name : List Int
def DReg.cells (x : DReg) : List Cel := (.num .i64 x.kind :: (x.obj.cells ++ (x.real.cells ++ (raw x.name :: []))))
theorem DReg.cells_top (x : DReg) : x.cells = (.num .i64 x.kind :: (x.obj.cells ++ (x.real.cells ++ (raw x.name :: [])))) := rfl
theorem DReg.cells_eq (x : DReg) : x.cells = [.num .i64 x.kind, raw x.obj.name, .num .i64 x.obj.kind, .num .i64 x.obj.tree.kind, raw x.obj.tree.data, Go.Proofs.Ytnloknhcdlannaa.names x.obj.tree.names, seqOf 4 T.cells x.obj.tree.kids, Go.Proofs.Ytnloknhcdlannaa.names x.obj.refs, raw x.obj.frm, raw x.obj.out, raw x.real.drv, raw x.real.out, raw x.real.path, raw x.name] := by rw [DReg.cells, DObj.cells_eq, DReal.cells_eq] <;> rfl
theorem DReg.cells_len (x : DReg) : x.cells.length = 14 := by rw [x.cells_eq]; rfl
structure DJournal where
  base : DStore
  regs : List DReg
  safe : Int
def DJournal.cells (x : DJournal) : List Cel := (x.base.cells ++ (seqOf 14 DReg.cells x.regs :: (.num .i64 x.safe :: [])))
theorem DJournal.cells_top (x : DJournal) : x.cells = (x.base.cells ++ (seqOf 14 DReg.cells x.regs :: (.num .i64 x.safe :: []))) := rfl
theorem DJournal.cells_eq (x : DJournal) : x.cells = [seqOf 9 DObj.cells x.base.objs, Go.Proofs.Ytnloknhcdlannaa.names x.base.roots, seqOf 3 DReal.cells x.base.reals, seqOf 14 DReg.cells x.regs, .num .i64 x.safe] := by rw [DJournal.cells, DStore.cells_eq] <;> rfl
theorem DJournal.cells_len (x : DJournal) : x.cells.length = 5 := by rw [x.cells_eq]; rfl
structure DCmd where
  kind : Int
  text : List Int
  tree : T
  name : List Int
  out : List Int
  picks : List Int
  keep : Int
def DCmd.cells (x : DCmd) : List Cel := (.num .i64 x.kind :: (raw x.text :: (x.tree.cells ++ (raw x.name :: (raw x.out :: (ints x.picks :: (.num .i64 x.keep :: [])))))))
theorem DCmd.cells_top (x : DCmd) : x.cells = (.num .i64 x.kind :: (raw x.text :: (x.tree.cells ++ (raw x.name :: (raw x.out :: (ints x.picks :: (.num .i64 x.keep :: []))))))) := rfl
theorem DCmd.cells_eq (x : DCmd) : x.cells = [.num .i64 x.kind, raw x.text, .num .i64 x.tree.kind, raw x.tree.data, Go.Proofs.Ytnloknhcdlannaa.names x.tree.names, seqOf 4 T.cells x.tree.kids, raw x.name, raw x.out, ints x.picks, .num .i64 x.keep] := by rw [DCmd.cells, T.cells_eq] <;> rfl
theorem DCmd.cells_len (x : DCmd) : x.cells.length = 10 := by rw [x.cells_eq]; rfl
structure DTold where
  code : Int
  name : List Int
def DTold.cells (x : DTold) : List Cel := (.num .i64 x.code :: (raw x.name :: []))
theorem DTold.cells_top (x : DTold) : x.cells = (.num .i64 x.code :: (raw x.name :: [])) := rfl
theorem DTold.cells_eq (x : DTold) : x.cells = [.num .i64 x.code, raw x.name] := by rw [DTold.cells] <;> rfl
theorem DTold.cells_len (x : DTold) : x.cells.length = 2 := by rw [x.cells_eq]; rfl

end Go.Proofs.Ytnloknhcdlannaa
