/-
  Parts of the proof: Lift.
-/
import Derived.Test.YtigklnokgmcifaaDoorMd0
import Derived.Test.YtigklnokgmcifaaDoorRows
import Derived.ProofKit
import Derived.OpenShut
import Derived.ShutString
import Derived.ChangeOld

/-
  From the rows of numbers that come in to lists of bytes.
-/
namespace Go.Proofs.YtigklnokgmcifaaDoor
open Go.ChangeShapes Go.WideShapes Go.ChangeAt Go.RowKit

theorem own : ownKnob Tryd.prog.godebug = none := by kernel_rfl
theorem laidOut : laidOutB Tryd.prog = true := by kernel_rfl

theorem rd_nil (W : World) : Rd W (.slice none 0 0) (bs []) := ⟨none, 0, rfl, Nat.le_refl _, Nat.zero_le _, fun h => by simp [bs] at h⟩

theorem i64_of_wf {n : Int} (h : (Lit.int .i64 n).wf = true) : -9223372036854775808 ≤ n ∧ n ≤ 9223372036854775807 := by
  have := bounds_i64 h
  omega
theorem u8_of_wf {n : Int} (h : (Lit.int .u8 n).wf = true) : 0 ≤ n ∧ n ≤ 255 := by
  have := bounds_u8 h
  omega

theorem rd_of_row {W : World} {x : Addr} {len c : Nat} {zs : List Int} (hl : len ≤ c) (hm : c ≤ maxLen) (hz : zs.length = c)
    (hcell : ∀ i, i < zs.length → W.cell? (x.add i) = some (.int .u8 (zs.getD i 0))) (hwz : ∀ n ∈ zs, (Lit.int .u8 n).wf = true) :
    ∃ l, Byt l ∧ Rd W (.slice (some x) len c) (bs l) := by
  refine ⟨zs.take len, fun y hy => u8_of_wf (hwz y (List.mem_of_mem_take hy)), ?_⟩
  have e : (bs (zs.take len)).length = len := by rw [bs_length, List.length_take]; omega
  refine ⟨some x, c, by rw [e], by omega, hm, fun hp => ?_⟩
  obtain ⟨b, off, spot⟩ := x
  have h0 := hcell 0 (by omega)
  have hs : spot = none := by simpa [Addr.add] using World.cell?_spot h0
  subst hs
  have hlt : b < W.heap.size := by
    have := World.block_lt_of_cell? W _ h0
    simpa [Addr.add] using this
  refine ⟨b, off, rfl, hlt, fun i u hu => ?_⟩
  obtain ⟨hi, rfl⟩ := bs_get_inv hu
  have hi2 : i < zs.length ∧ i < len := by rw [List.length_take] at hi; omega
  have h1 := hcell i hi2.1
  rw [Addr.add_lit] at h1
  rw [h1]
  have : (zs.take len).getD i 0 = zs.getD i 0 := by simp [List.getD, hi2.2]
  rw [this]

end Go.Proofs.YtigklnokgmcifaaDoor
