/-
  Parts of the proof: Sha1.
-/
import Derived.Test.YtgaadpkefncnmaaGreatDoorMp0
import Derived.Test.YtgaadpkefncnmaaGreatDoorRows
import Derived.Deep.QuietTactic
import Derived.BigQuiet
import Derived.Deep.Cut
/-
  The small functions of a hash.
-/
namespace Go.Proofs.YtgaadpkefncnmaaGreatDoor
open Go.RowKit
set_option linter.unusedVariables false
def KL:List Int:=[0x428a2f98,0x71374491,0xb5c0fbcf,0xe9b5dba5,0x3956c25b,0x59f111f1,0x923f82a4,0xab1c5ed5,
 0xd807aa98,0x12835b01,0x243185be,0x550c7dc3,0x72be5d74,0x80deb1fe,0x9bdc06a7,0xc19bf174,
 0xe49b69c1,0xefbe4786,0x0fc19dc6,0x240ca1cc,0x2de92c6f,0x4a7484aa,0x5cb0a9dc,0x76f988da,
 0x983e5152,0xa831c66d,0xb00327c8,0xbf597fc7,0xc6e00bf3,0xd5a79147,0x06ca6351,0x14292967,
 0x27b70a85,0x2e1b2138,0x4d2c6dfc,0x53380d13,0x650a7354,0x766a0abb,0x81c2c92e,0x92722c85,
 0xa2bfe8a1,0xa81a664b,0xc24b8b70,0xc76c51a3,0xd192e819,0xd6990624,0xf40e3585,0x106aa070,
 0x19a4c116,0x1e376c08,0x2748774c,0x34b0bcb5,0x391c0cb3,0x4ed8aa4a,0x5b9cca4f,0x682e6ff3,
 0x748f82ee,0x78a5636f,0x84c87814,0x8cc70208,0x90befffa,0xa4506ceb,0xbef9a3f7,0xc67178f2]
def Z64:List Int:=List.replicate 64 0
def Z8:List Int:=List.replicate 8 0
set_option maxRecDepth 20000 in
set_option maxHeartbeats 800000 in
theorem specRound (i:Nat) (h0:i < 64) (w:World) :
  Calls Tryz.prog 239 #[.int .i64 i] w fun e w'=>e=.returned (.int .u32 (KL.getD i 0))∧Below w.heap.size w w':=by
 go_enter Tryz.func239,Tryz.ntmps239
 go_wp2_with (first
  | (refine wpList_build_as (o:=⟨some 4,_,_,_,_,_⟩) (wd KL) rfl _ _ rfl (by kernel_rfl) ?_; generalize hK:wd KL=K; have HK:=hide hK; clear hK)
  | (refine wpList_alloc_zero (o:=⟨some 3,_,_,_,_,_⟩) rfl _ rfl (wd Z64) (by kernel_rfl) ?_; intro w1 at1 b1 z1)
  | (refine wpList_store_all (o:=⟨none,_,_,_,_,_⟩) rfl _ _ _ rfl w.heap.size K rfl rfl _ _ at1 (by rw [← HK.out]; kernel_rfl) (by rw [← HK.out]; kernel_rfl) (by rw [← HK.out]; exact wd_one _) ?_; intro w2 at2 b2 z2 n2; rw [← HK.out] at at2; have hcell:=at2.cell (i:=i) (by simpa [KL] using h0)))
 go_ret
 exact ⟨rfl,b1.trans (b2 _ (Nat.le_refl _))⟩
/-- The word, turned to the right by n bits. -/
def rot (n:Nat) (x:Int):Int:=bits .or .u32 (x / 2 ^ n) (x * 2 ^ (32 - n) % 4294967296)
theorem bits32 (op:BinOp) (a b:Int):0≤bits op .u32 a b∧bits op .u32 a b≤4294967295:=by
 unfold bits
 split <;> (first | (rw [IntKind.wrap_u32]; omega) | omega)
theorem or32_comm (a b:Int):bits .or .u32 a b=bits .or .u32 b a:=by
 show IntKind.u32.wrap ((BitVec.ofInt 32 a ||| BitVec.ofInt 32 b).toNat:Int)=IntKind.u32.wrap ((BitVec.ofInt 32 b ||| BitVec.ofInt 32 a).toNat:Int)
 rw [BitVec.or_comm]
theorem ret_u32 {a b:Int} (h:a=b):Ending.returned (.int .u32 a)=.returned (.int .u32 b):=by rw [h]
set_option maxRecDepth 20000 in
set_option maxHeartbeats 400000 in
theorem turn2 (x:Int) (h0:0≤x) (h1:x≤4294967295) (w:World) :
  Calls Tryz.prog 238 #[.int .u32 x,.int .i64 2] w fun e w'=>e=.returned (.int .u32 (rot 2 x))∧∃ m,w' = w.drewN m:=by
 go_enter Tryz.func238,Tryz.ntmps238
 go_wp2
 go_quiet (fail)
 go_wp2
 go_ret
 exact ⟨ret_u32 rfl,_,rfl⟩
set_option maxRecDepth 20000 in
set_option maxHeartbeats 400000 in
theorem left2 (x:Int) (h0:0≤x) (h1:x≤4294967295) (w:World) :
  Calls Tryz.prog 277 #[.int .u32 x,.int .i64 (-2)] w fun e w'=>e=.returned (.int .u32 (rot 2 x))∧∃ m,w' = w.drewN m:=by
 have hk:bits .and .u64 (IntKind.u64.wrap (-2)) 31=30:=by decide +kernel
 go_enter Tryz.func277,Tryz.ntmps277
 go_wp2
 go_ret
 exact ⟨ret_u32 (or32_comm _ _),0,rfl⟩
set_option maxRecDepth 20000 in
set_option maxHeartbeats 400000 in
theorem turn6 (x:Int) (h0:0≤x) (h1:x≤4294967295) (w:World) :
  Calls Tryz.prog 238 #[.int .u32 x,.int .i64 6] w fun e w'=>e=.returned (.int .u32 (rot 6 x))∧∃ m,w' = w.drewN m:=by
 go_enter Tryz.func238,Tryz.ntmps238
 go_wp2
 go_quiet (fail)
 go_wp2
 go_ret
 exact ⟨ret_u32 rfl,_,rfl⟩
set_option maxRecDepth 20000 in
set_option maxHeartbeats 400000 in
theorem left6 (x:Int) (h0:0≤x) (h1:x≤4294967295) (w:World) :
  Calls Tryz.prog 277 #[.int .u32 x,.int .i64 (-6)] w fun e w'=>e=.returned (.int .u32 (rot 6 x))∧∃ m,w' = w.drewN m:=by
 have hk:bits .and .u64 (IntKind.u64.wrap (-6)) 31=26:=by decide +kernel
 go_enter Tryz.func277,Tryz.ntmps277
 go_wp2
 go_ret
 exact ⟨ret_u32 (or32_comm _ _),0,rfl⟩
set_option maxRecDepth 20000 in
set_option maxHeartbeats 400000 in
theorem turn7 (x:Int) (h0:0≤x) (h1:x≤4294967295) (w:World) :
  Calls Tryz.prog 238 #[.int .u32 x,.int .i64 7] w fun e w'=>e=.returned (.int .u32 (rot 7 x))∧∃ m,w' = w.drewN m:=by
 go_enter Tryz.func238,Tryz.ntmps238
 go_wp2
 go_quiet (fail)
 go_wp2
 go_ret
 exact ⟨ret_u32 rfl,_,rfl⟩
set_option maxRecDepth 20000 in
set_option maxHeartbeats 400000 in
theorem left7 (x:Int) (h0:0≤x) (h1:x≤4294967295) (w:World) :
  Calls Tryz.prog 277 #[.int .u32 x,.int .i64 (-7)] w fun e w'=>e=.returned (.int .u32 (rot 7 x))∧∃ m,w' = w.drewN m:=by
 have hk:bits .and .u64 (IntKind.u64.wrap (-7)) 31=25:=by decide +kernel
 go_enter Tryz.func277,Tryz.ntmps277
 go_wp2
 go_ret
 exact ⟨ret_u32 (or32_comm _ _),0,rfl⟩
set_option maxRecDepth 20000 in
set_option maxHeartbeats 400000 in
theorem turn11 (x:Int) (h0:0≤x) (h1:x≤4294967295) (w:World) :
  Calls Tryz.prog 238 #[.int .u32 x,.int .i64 11] w fun e w'=>e=.returned (.int .u32 (rot 11 x))∧∃ m,w' = w.drewN m:=by
 go_enter Tryz.func238,Tryz.ntmps238
 go_wp2
 go_quiet (fail)
 go_wp2
 go_ret
 exact ⟨ret_u32 rfl,_,rfl⟩
set_option maxRecDepth 20000 in
set_option maxHeartbeats 400000 in
theorem left11 (x:Int) (h0:0≤x) (h1:x≤4294967295) (w:World) :
  Calls Tryz.prog 277 #[.int .u32 x,.int .i64 (-11)] w fun e w'=>e=.returned (.int .u32 (rot 11 x))∧∃ m,w' = w.drewN m:=by
 have hk:bits .and .u64 (IntKind.u64.wrap (-11)) 31=21:=by decide +kernel
 go_enter Tryz.func277,Tryz.ntmps277
 go_wp2
 go_ret
 exact ⟨ret_u32 (or32_comm _ _),0,rfl⟩
set_option maxRecDepth 20000 in
set_option maxHeartbeats 400000 in
theorem turn13 (x:Int) (h0:0≤x) (h1:x≤4294967295) (w:World) :
  Calls Tryz.prog 238 #[.int .u32 x,.int .i64 13] w fun e w'=>e=.returned (.int .u32 (rot 13 x))∧∃ m,w' = w.drewN m:=by
 go_enter Tryz.func238,Tryz.ntmps238
 go_wp2
 go_quiet (fail)
 go_wp2
 go_ret
 exact ⟨ret_u32 rfl,_,rfl⟩
set_option maxRecDepth 20000 in
set_option maxHeartbeats 400000 in
theorem left13 (x:Int) (h0:0≤x) (h1:x≤4294967295) (w:World) :
  Calls Tryz.prog 277 #[.int .u32 x,.int .i64 (-13)] w fun e w'=>e=.returned (.int .u32 (rot 13 x))∧∃ m,w' = w.drewN m:=by
 have hk:bits .and .u64 (IntKind.u64.wrap (-13)) 31=19:=by decide +kernel
 go_enter Tryz.func277,Tryz.ntmps277
 go_wp2
 go_ret
 exact ⟨ret_u32 (or32_comm _ _),0,rfl⟩
set_option maxRecDepth 20000 in
set_option maxHeartbeats 400000 in
theorem turn17 (x:Int) (h0:0≤x) (h1:x≤4294967295) (w:World) :
  Calls Tryz.prog 238 #[.int .u32 x,.int .i64 17] w fun e w'=>e=.returned (.int .u32 (rot 17 x))∧∃ m,w' = w.drewN m:=by
 go_enter Tryz.func238,Tryz.ntmps238
 go_wp2
 go_quiet (fail)
 go_wp2
 go_ret
 exact ⟨ret_u32 rfl,_,rfl⟩
set_option maxRecDepth 20000 in
set_option maxHeartbeats 400000 in
theorem left17 (x:Int) (h0:0≤x) (h1:x≤4294967295) (w:World) :
  Calls Tryz.prog 277 #[.int .u32 x,.int .i64 (-17)] w fun e w'=>e=.returned (.int .u32 (rot 17 x))∧∃ m,w' = w.drewN m:=by
 have hk:bits .and .u64 (IntKind.u64.wrap (-17)) 31=15:=by decide +kernel
 go_enter Tryz.func277,Tryz.ntmps277
 go_wp2
 go_ret
 exact ⟨ret_u32 (or32_comm _ _),0,rfl⟩
set_option maxRecDepth 20000 in
set_option maxHeartbeats 400000 in
theorem turn18 (x:Int) (h0:0≤x) (h1:x≤4294967295) (w:World) :
  Calls Tryz.prog 238 #[.int .u32 x,.int .i64 18] w fun e w'=>e=.returned (.int .u32 (rot 18 x))∧∃ m,w' = w.drewN m:=by
 go_enter Tryz.func238,Tryz.ntmps238
 go_wp2
 go_quiet (fail)
 go_wp2
 go_ret
 exact ⟨ret_u32 rfl,_,rfl⟩
set_option maxRecDepth 20000 in
set_option maxHeartbeats 400000 in
theorem left18 (x:Int) (h0:0≤x) (h1:x≤4294967295) (w:World) :
  Calls Tryz.prog 277 #[.int .u32 x,.int .i64 (-18)] w fun e w'=>e=.returned (.int .u32 (rot 18 x))∧∃ m,w' = w.drewN m:=by
 have hk:bits .and .u64 (IntKind.u64.wrap (-18)) 31=14:=by decide +kernel
 go_enter Tryz.func277,Tryz.ntmps277
 go_wp2
 go_ret
 exact ⟨ret_u32 (or32_comm _ _),0,rfl⟩
set_option maxRecDepth 20000 in
set_option maxHeartbeats 400000 in
theorem turn19 (x:Int) (h0:0≤x) (h1:x≤4294967295) (w:World) :
  Calls Tryz.prog 238 #[.int .u32 x,.int .i64 19] w fun e w'=>e=.returned (.int .u32 (rot 19 x))∧∃ m,w' = w.drewN m:=by
 go_enter Tryz.func238,Tryz.ntmps238
 go_wp2
 go_quiet (fail)
 go_wp2
 go_ret
 exact ⟨ret_u32 rfl,_,rfl⟩
set_option maxRecDepth 20000 in
set_option maxHeartbeats 400000 in
theorem left19 (x:Int) (h0:0≤x) (h1:x≤4294967295) (w:World) :
  Calls Tryz.prog 277 #[.int .u32 x,.int .i64 (-19)] w fun e w'=>e=.returned (.int .u32 (rot 19 x))∧∃ m,w' = w.drewN m:=by
 have hk:bits .and .u64 (IntKind.u64.wrap (-19)) 31=13:=by decide +kernel
 go_enter Tryz.func277,Tryz.ntmps277
 go_wp2
 go_ret
 exact ⟨ret_u32 (or32_comm _ _),0,rfl⟩
set_option maxRecDepth 20000 in
set_option maxHeartbeats 400000 in
theorem turn22 (x:Int) (h0:0≤x) (h1:x≤4294967295) (w:World) :
  Calls Tryz.prog 238 #[.int .u32 x,.int .i64 22] w fun e w'=>e=.returned (.int .u32 (rot 22 x))∧∃ m,w' = w.drewN m:=by
 go_enter Tryz.func238,Tryz.ntmps238
 go_wp2
 go_quiet (fail)
 go_wp2
 go_ret
 exact ⟨ret_u32 rfl,_,rfl⟩
set_option maxRecDepth 20000 in
set_option maxHeartbeats 400000 in
theorem left22 (x:Int) (h0:0≤x) (h1:x≤4294967295) (w:World) :
  Calls Tryz.prog 277 #[.int .u32 x,.int .i64 (-22)] w fun e w'=>e=.returned (.int .u32 (rot 22 x))∧∃ m,w' = w.drewN m:=by
 have hk:bits .and .u64 (IntKind.u64.wrap (-22)) 31=10:=by decide +kernel
 go_enter Tryz.func277,Tryz.ntmps277
 go_wp2
 go_ret
 exact ⟨ret_u32 (or32_comm _ _),0,rfl⟩
set_option maxRecDepth 20000 in
set_option maxHeartbeats 400000 in
theorem turn25 (x:Int) (h0:0≤x) (h1:x≤4294967295) (w:World) :
  Calls Tryz.prog 238 #[.int .u32 x,.int .i64 25] w fun e w'=>e=.returned (.int .u32 (rot 25 x))∧∃ m,w' = w.drewN m:=by
 go_enter Tryz.func238,Tryz.ntmps238
 go_wp2
 go_quiet (fail)
 go_wp2
 go_ret
 exact ⟨ret_u32 rfl,_,rfl⟩
set_option maxRecDepth 20000 in
set_option maxHeartbeats 400000 in
theorem left25 (x:Int) (h0:0≤x) (h1:x≤4294967295) (w:World) :
  Calls Tryz.prog 277 #[.int .u32 x,.int .i64 (-25)] w fun e w'=>e=.returned (.int .u32 (rot 25 x))∧∃ m,w' = w.drewN m:=by
 have hk:bits .and .u64 (IntKind.u64.wrap (-25)) 31=7:=by decide +kernel
 go_enter Tryz.func277,Tryz.ntmps277
 go_wp2
 go_ret
 exact ⟨ret_u32 (or32_comm _ _),0,rfl⟩
end Go.Proofs.YtgaadpkefncnmaaGreatDoor
