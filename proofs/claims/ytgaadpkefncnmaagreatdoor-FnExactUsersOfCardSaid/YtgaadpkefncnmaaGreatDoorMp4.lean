/-
  Parts of the proof: Entry.
-/
import Derived.Test.YtgaadpkefncnmaaGreatDoorMp0
import Derived.Lib.OthersKept
/-
  EntryOk: the model and the program agree on what an entry name is.
-/
namespace Go.Proofs.YtgaadpkefncnmaaGreatDoor
open Go.RowKit
set_option linter.unusedVariables false
def entryChar (x:Int):Bool:=decide ((97≤x∧x≤122)∨(48≤x∧x≤57)∨x=46∨x=45)
def entryFrom (l:List Int) (k:Nat):Bool:=(l.drop k).all entryChar
def entryOk (l:List Int):Bool:=decide (1≤l.length∧l.length≤8∧l.getD 0 0≠46) && entryFrom l 0
theorem entryFrom_more {l:List Int} {k:Nat} (h:k < l.length):entryFrom l k=(entryChar (l.getD k 0) && entryFrom l (k + 1)):=by
 unfold entryFrom
 rw [List.drop_eq_getElem_cons h,List.all_cons]
 simp [List.getD,List.getElem?_eq_getElem h]
theorem entryFrom_end {l:List Int} {k:Nat} (h:l.length≤k):entryFrom l k=true:=by
 unfold entryFrom
 rw [List.drop_eq_nil_of_le h]
 rfl
theorem entryOk_out {l:List Int} (h:¬ (1≤l.length∧l.length≤8∧l.getD 0 0≠46)):entryOk l=false:=by
 rw [entryOk,decide_eq_false h,Bool.false_and]
theorem entryOk_in {l:List Int} (h:1≤l.length∧l.length≤8∧l.getD 0 0≠46):entryOk l=entryFrom l 0:=by
 rw [entryOk,decide_eq_true h,Bool.true_and]
/-- The characters of an entry as a string. -/
def entS:ByteArray:=⟨#[97,98,99,100,101,102,103,104,105,106,107,108,109,110,111,112,113,114,115,116,117,118,119,120,121,122,48,49,50,51,52,53,54,55,56,57,46,45]⟩
theorem entS_all:∀ n:Fin 256,decide (firstIdx entS (UInt8.ofNat n.val) < 0) = !entryChar n.val:=by decide +kernel
theorem entS_idx {y:Int} (h0:0≤y) (h1:y≤255):decide (firstIdx entS y.toNat.toUInt8 < 0) = !entryChar y:=by
 obtain ⟨n,rfl⟩:=Int.eq_ofNat_of_zero_le h0
 exact entS_all ⟨n,by omega⟩
theorem ext_indexByte (s:ByteArray) (c:Int) (W:World):(callFunc 275 #[.string s,.int .u8 c]).run Tryz.prog W=.ok (.value (.int .i64 (firstIdx s c.toNat.toUInt8))) W:=by
 rw [run_callFunc_extern Tryz.func275 (by kernel_rfl) (by kernel_rfl) (by kernel_rfl) (e:=Extern.BytealgIndexByte.indexByte) (by kernel_rfl),run_indexByte_string]
 rfl
set_option maxHeartbeats 400000 in
theorem indexByteLow (s:ByteArray) (c:Int) (w:World) :
  Calls Tryz.prog 269 #[.string s,.int .u8 c] w fun e w'=>e=.returned (.int .i64 (firstIdx s c.toNat.toUInt8))∧w=w':=by
 have hx:=ext_indexByte s c
 go_enter Tryz.func269,Tryz.ntmps269
 go_wp2
 go_ret
 exact ⟨rfl,rfl⟩
set_option maxHeartbeats 400000 in
theorem indexByteAny (s:ByteArray) (c:Int) (w:World) :
  Calls Tryz.prog 248 #[.string s,.int .u8 c] w fun e w'=>e=.returned (.int .i64 (firstIdx s c.toNat.toUInt8))∧w=w':=by
 go_enter Tryz.func248,Tryz.ntmps248
 go_wp2_with (go_at_call 269; (with_reducible refine (indexByteLow s c w).mono ?_); rintro e w' ⟨rfl,rfl⟩)
 go_ret
 exact ⟨rfl,rfl⟩
end Go.Proofs.YtgaadpkefncnmaaGreatDoor
