/-
  Base32Read: the model's walk.
-/
import Derived.Test.YtindjacbocfniaaDoorB32R
import Derived.Test.YtindjacbocfniaaDoorB32
import Derived.Test.YtindjacbocfniaaDoorNameOk
import Derived.Deep.RegionWith
namespace Go.Proofs.YtindjacbocfniaaDoor
open Go.RowKit

theorem all_ok (l : List Int) : l.all (fun x => decide (0 ≤ lidx x)) = okFrom l 0 := by simp [okFrom]

/-- One more character: the number of the pending bits. -/
theorem pend {l : List Int} (hB : Byt l) {k m h : Nat} (hk : k < l.length) (hm : 5 * k = 8 * m + h) (hx : 0 ≤ lidx (l.getD k 0)) :
    pf (dbit (l.map lidx)) (8 * m) (h + 5) = pf (dbit (l.map lidx)) (8 * m) h * 32 + lidx (l.getD k 0) := by
  have e : (l.map lidx).getD k 0 = lidx (l.getD k 0) := by simp [List.getD, hk]
  have hy := hB.at_ k
  have hf := lidx_facts hy.1 hy.2
  rw [pf_split, ← hm, dbit_five _ _ (by rw [e]; exact ⟨hx, hf.2.1⟩), e]
  rfl

theorem str_inj {a b : List Int} (ha : Byt a) (hb : Byt b) (h : (strOfNums a).toList = (strOfNums b).toList) : a = b := by
  rw [ByteArray.toList_eq, ByteArray.toList_eq, strOfNums_data, strOfNums_data] at h
  induction a generalizing b with
  | nil =>
    cases b with
    | nil => rfl
    | cons y b => simp at h
  | cons x a ih =>
    cases b with
    | nil => simp at h
    | cons y b =>
      simp only [List.map_cons, List.cons.injEq] at h
      have h1 := congrArg UInt8.toNat h.1
      rw [UInt8.toNat_ofNat', UInt8.toNat_ofNat'] at h1
      have hx := ha x (List.mem_cons_self ..)
      have hy := hb y (List.mem_cons_self ..)
      have e : x = y := by omega
      rw [e, ih (fun z hz => ha z (List.mem_cons_of_mem _ hz)) (fun z hz => hb z (List.mem_cons_of_mem _ hz)) h.2]
theorem outs_app {d : List Int} {m : Nat} {x : Int} (h : x = pf (dbit d) (8 * m) 8) : bs (outs d m) ++ bs [x] = bs (outs d (m + 1)) := by rw [outs_succ, bs_append, h]

end Go.Proofs.YtindjacbocfniaaDoor
