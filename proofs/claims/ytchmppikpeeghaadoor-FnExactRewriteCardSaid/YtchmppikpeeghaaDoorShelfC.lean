/-
  The program's copy of a function of the library is the one that the library speaks of: function by function, type by type.
-/
import Derived.Ground.SlbNamesProg
import Derived.Shelf.Bytes.SlCountWhole
import Derived.Test.YtchmppikpeeghaaDoorProg
namespace Go.Proofs
open Go.Shelf
def Tryd.laysC13_ren : Go.Shelf.Ren := ⟨fun | 13 => 18 | 24 => 25 | 25 => 26 | 12 => 19 | 31 => 33 | 19 => 27 | 20 => 28 | 21 => 29 | 22 => 23 | 23 => 30 | 29 => 34 | 30 => 35 | n => n, fun | 22 => 22 | 3 => 3 | 4 => 4 | 0 => 0 | 5 => 5 | 9 => 9 | 33 => 41 | 40 => 47 | 39 => 46 | n => n, fun | 0 => 0 | n => n⟩
theorem Tryd.laysC13 : Go.Proofs.SlLaysC.n13 Tryd.prog Tryd.laysC13_ren := {
  mixed := by kernel_rfl
  f12 := Tryd.func19.trans (congrArg some (by kernel_rfl))
  f13 := Tryd.func18.trans (congrArg some (by kernel_rfl))
  f19 := Tryd.func27.trans (congrArg some (by kernel_rfl))
  f20 := Tryd.func28.trans (congrArg some (by kernel_rfl))
  f21 := Tryd.func29.trans (congrArg some (by kernel_rfl))
  f22 := Tryd.func23.trans (congrArg some (by kernel_rfl))
  f23 := Tryd.func30.trans (congrArg some (by kernel_rfl))
  f25 := Tryd.func26.trans (congrArg some (by kernel_rfl))
  f29 := Tryd.func34.trans (congrArg some (by kernel_rfl))
  f30 := Tryd.func35.trans (congrArg some (by kernel_rfl))
  t0 := Tryd.underlying0
  a0 := Tryd.isAgg0
  z0 := Tryd.sizeOf0
  v0 := Tryd.zeroValue0
  t3 := Tryd.underlying3
  a3 := Tryd.isAgg3
  z3 := Tryd.sizeOf3
  v3 := Tryd.zeroValue3
  t4 := Tryd.underlying4
  a4 := Tryd.isAgg4
  z4 := Tryd.sizeOf4
  v4 := Tryd.zeroValue4
  t5 := Tryd.underlying5
  a5 := Tryd.isAgg5
  z5 := Tryd.sizeOf5
  v5 := Tryd.zeroValue5
  t9 := Tryd.underlying9
  a9 := Tryd.isAgg9
  z9 := Tryd.sizeOf9
  v9 := Tryd.zeroValue9
  t22 := Tryd.underlying22
  a22 := Tryd.isAgg22
  z22 := Tryd.sizeOf22
  v22 := Tryd.zeroValue22
  t33 := Tryd.underlying41
  a33 := Tryd.isAgg41
  z33 := Tryd.sizeOf41
  v33 := Tryd.zeroValue41
  t39 := Tryd.underlying46
  a39 := Tryd.isAgg46
  z39 := Tryd.sizeOf46
  v39 := Tryd.zeroValue46
  t40 := Tryd.underlying47
  a40 := Tryd.isAgg47
  z40 := Tryd.sizeOf47
  v40 := Tryd.zeroValue47
  g0 := by kernel_rfl }
end Go.Proofs
