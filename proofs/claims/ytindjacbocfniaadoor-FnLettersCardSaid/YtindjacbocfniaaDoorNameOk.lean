/-
  NameOk: the model and the program agree on what a name is.
-/
import Derived.Test.YtindjacbocfniaaDoorBytes
import Derived.Test.YtindjacbocfniaaDoorRune
import Derived.Laws.BytesArg
namespace Go.Proofs.YtindjacbocfniaaDoor
open Go.RowKit

/-- A slice of bytes, converted to a string. -/
theorem conv_rd {P : Program} {src dst e : TypeId} (hs : P.underlying src = some (.slice e)) (he : P.underlying e = some (.int .u8)) (hd : P.underlying dst = some .string)
    {w : World} {v : Value} {l : List Int} (h : Rd w v (bs l)) : (convert src dst v).run P w = .ok (.string (strOfNums l)) w := by
  obtain ⟨A, c, rfl, hc, hm, hcell⟩ := h
  rw [bs_length] at *
  cases A with
  | none =>
    have h0 : l = [] := by
      rcases Nat.eq_zero_or_pos l.length with h | h
      · exact List.eq_nil_of_length_eq_zero h
      · obtain ⟨b, off, hA, _⟩ := hcell h
        cases hA
    subst h0
    exact run_convert_bytes_nil w src e hs he _ _ dst hd
  | some ad =>
    have hl : (loadCells ad l.length).run P w = .ok (l.map (Value.int .u8)).toArray w := by
      have := run_loadCells_list (P := P) w ad (l.map (Value.int .u8)) (fun j u hj => by
        have hjl : j < l.length := by
          have := (List.getElem?_eq_some_iff.1 hj).1
          simpa using this
        obtain ⟨b, off, hA, _, hc⟩ := hcell (by omega)
        injection hA with hA
        subst hA
        rw [Addr.add_lit]
        exact hc j u hj)
      simpa using this
    rw [run_convert_bytes_string w src dst e _ _ _ hs he hd, run_bytesToString w ad _ _ l hl, foldl_push_bytes]
    simp [strOfNums, ByteArray.empty, ByteArray.emptyWithCapacity]
    rfl

theorem str_get {l : List Int} (hB : Byt l) {k : Nat} (h : k < (strOfNums l).size) : (((strOfNums l)[k]'h).toNat : Int) = l.getD k 0 := by
  have hk : k < l.length := by rw [strOfNums_size] at h; exact h
  have hy := hB.at_ k
  have e : (strOfNums l)[k]'h = (strOfNums l).data.toList[k]'(by simpa using h) := rfl
  rw [e]
  simp only [strOfNums_data, List.getElem_map]
  have e2 : l.getD k 0 = l[k] := by simp [List.getD, List.getElem?_eq_getElem hk]
  rw [e2] at hy ⊢
  rw [UInt8.toNat_ofNat']
  omega

set_option maxHeartbeats 400000 in
theorem containsLow (r : Int) (h0 : 0 ≤ r) (h1 : r < 128) (w : World) :
    Calls Tryd.prog 42 #[.string abcS, .int .i32 r] w fun e w' => e = .returned (.bool (decide (0 ≤ lidx r))) ∧ Below w.heap.size w w' := by
  obtain ⟨R, hR⟩ : ∃ R, lidx r = R := ⟨_, rfl⟩
  rw [hR]
  have HR := hide hR
  clear hR
  go_enter Tryd.func42, Tryd.ntmps42
  go_wp2_with fail
  refine (indexRuneLow r h0 h1 w).mono ?_
  rintro e w1 ⟨rfl, b1⟩
  rw [HR.out]
  go_wp2_with fail
  go_ret
  exact ⟨rfl, b1⟩

set_option maxHeartbeats 400000 in
theorem containsHigh (r : Int) (h0 : 128 ≤ r) (h1 : r ≤ 2147483647) (w : World) :
    Calls Tryd.prog 42 #[.string abcS, .int .i32 r] w fun e w' => e = .returned (.bool false) ∧ Below w.heap.size w w' := by
  have hc := indexRune r (by omega) h1 w
  rw [if_neg (by omega)] at hc
  have HC := hide hc
  clear hc
  go_enter Tryd.func42, Tryd.ntmps42
  go_wp2_with fail
  refine Calls.mono HC.out ?_
  rintro e w1 ⟨rfl, b1⟩
  go_wp2_with fail
  go_ret
  exact ⟨rfl, b1⟩

/-- All from the k-th on are characters. -/
def okFrom (l : List Int) (k : Nat) : Bool := (l.drop k).all fun x => decide (0 ≤ lidx x)
def nameOk (l : List Int) : Bool := decide (l.length = 16) && okFrom l 0
theorem okFrom_more {l : List Int} {k : Nat} (h : k < l.length) : okFrom l k = (decide (0 ≤ lidx (l.getD k 0)) && okFrom l (k + 1)) := by
  unfold okFrom
  rw [List.drop_eq_getElem_cons h, List.all_cons]
  simp [List.getD, List.getElem?_eq_getElem h]
theorem okFrom_end {l : List Int} {k : Nat} (h : l.length ≤ k) : okFrom l k = true := by
  unfold okFrom
  rw [List.drop_eq_nil_of_le h]
  rfl

end Go.Proofs.YtindjacbocfniaaDoor
