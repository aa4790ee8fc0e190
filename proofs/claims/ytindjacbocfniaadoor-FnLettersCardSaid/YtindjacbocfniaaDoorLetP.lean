/-
  Letters in plain numbers: bytes come back from their characters, and a text that is read is just the characters of its bytes.
-/
import Derived.Test.YtindjacbocfniaaDoorName
import Derived.Test.YtindjacbocfniaaDoorNameOkI
import Derived.Test.YtindjacbocfniaaDoorB32RdI
namespace Go.Proofs.YtindjacbocfniaaDoor
open Go.RowKit

theorem lidx_ltr_at {x : Int} (h0 : 0 ≤ x) (h1 : x < 32) : lidx (ltr x) = x := by
  obtain ⟨k, rfl⟩ := Int.eq_ofNat_of_zero_le h0
  exact lidx_ltr ⟨k, by omega⟩
theorem b32_lidx (b : List Int) : (b32 b).map lidx = grp b 0 := by
  rw [b32, List.map_map]
  refine Eq.trans (List.map_congr_left (g := id) fun x hx => ?_) (List.map_id _)
  exact lidx_ltr_at (grp_lt b 0 x hx).1 (grp_lt b 0 x hx).2
theorem b32_ok (b : List Int) : ∀ x ∈ b32 b, 0 ≤ lidx x := by
  intro x hx
  obtain ⟨y, hy, rfl⟩ := List.mem_map.1 hx
  rw [lidx_ltr_at (grp_lt b 0 y hy).1 (grp_lt b 0 y hy).2]
  exact (grp_lt b 0 y hy).1
theorem dbit_grp (b : List Int) {k : Nat} (h : k / 5 * 5 < 8 * b.length) : dbit (grp b 0) k = bitI b k := by
  have hg := grp_get b 0 (k / 5)
  rw [if_pos (by omega)] at hg
  have e : (grp b 0).getD (k / 5) 0 = part b (0 + 5 * (k / 5)) 5 := by simp [List.getD, hg]
  have hp := pf_bit (bitI_bit b) (0 + 5 * (k / 5)) (n := 5) (t := k % 5) (by omega)
  have e2 : 0 + 5 * (k / 5) + k % 5 = k := by omega
  rw [e2] at hp
  rw [dbit, e, part_pf, ← hp]
theorem bitI_over (b : List Int) {k : Nat} (h : 8 * b.length ≤ k) : bitI b k = 0 := by
  unfold bitI
  rw [List.getD_eq_getElem?_getD, List.getElem?_eq_none (by omega)]
  simp
theorem outs_grp (b : List Int) (hB : Byt b) : outs (grp b 0) b.length = b := by
  apply List.ext_getElem
  · rw [outs_len]
  · intro j h1 h2
    have e : pf (dbit (grp b 0)) (8 * j) 8 = pf (bitI b) (8 * j) 8 := pf_congr _ _ fun k hk => dbit_grp b (by omega)
    have e2 := part_byte b hB j
    rw [part_pf] at e2
    simp only [outs, List.getElem_map, List.getElem_range, e, e2]
    simp [List.getD, h2]

/-- Bytes come back from their characters. -/
theorem b32Read_b32 (b : List Int) (hB : Byt b) (h : b.length ≤ 64) : b32Read (base32 b) = (b, true) := by
  have hl : (b32 b).length = (8 * b.length + 4) / 5 := b32_len b
  have hm : 5 * (b32 b).length / 8 = b.length := by omega
  have hz : pf (dbit (grp b 0)) (8 * b.length) ((5 * (b32 b).length) % 8) = 0 := pf_zero _ _ fun k hk => by
    rw [dbit_grp b (by omega)]
    exact bitI_over b (by omega)
  rw [base32, if_neg (by omega), b32Read, if_neg (by omega), if_pos (List.all_eq_true.2 fun x hx => decide_eq_true (b32_ok b x hx)), b32_lidx, hm, if_pos ⟨by omega, hz⟩, outs_grp b hB]

/-- A text that is read is just the characters of its bytes. -/
theorem base32_read (l : List Int) (hB : Byt l) (h : (b32Read l).2 = true) : base32 (b32Read l).1 = l := by
  unfold b32Read at h ⊢
  split at h
  · cases h
  · rename_i h1
    rw [if_neg h1]
    split at h
    · rename_i h2
      rw [if_pos h2]
      split at h
      · rename_i h3
        rw [if_pos h3]
        have hc : ∀ x ∈ l, 0 ≤ lidx x := fun x hx => of_decide_eq_true (List.all_eq_true.1 h2 x hx)
        rw [base32, if_neg (by rw [outs_len]; omega)]
        exact (b32_outs l hB hc (5 * l.length / 8) (5 * l.length % 8) (by omega) (by omega)).2 h3
      · cases h
    · cases h

theorem nameOk_b32 (x : List Int) (h : x.length = 10) : nameOk (b32 x) = true := by
  have hl : (b32 x).length = 16 := by rw [b32_len, h]
  rw [nameOk, hl, okFrom, List.drop_zero, List.all_eq_true.2 fun y hy => decide_eq_true (b32_ok x y hy)]
  rfl
theorem b32Read_byt (l : List Int) : Byt (b32Read l).1 := by
  unfold b32Read
  split
  · exact Byt.nil
  · split
    · split
      · exact outs_byt _ _
      · exact Byt.nil
    · exact Byt.nil
theorem base32_byt (l : List Int) : Byt (base32 l) := by
  unfold base32
  split
  · exact Byt.nil
  · exact b32_byt l

set_option maxHeartbeats 400000 in
/-- Two slices that read as the same bytes are the same. -/
theorem sameBytes (l : List Int) (v1 v2 : Value) (w : World) (h1 : Rd w v1 (bs l)) (h2 : Rd w v2 (bs l)) :
    Calls Tryd.prog 18 #[v1, v2] w fun e w' => e = .returned (.bool true) ∧ Below w.heap.size w w' := by
  have q1 := conv_rd (P := Tryd.prog) Tryd.underlying22 Tryd.underlying5 Tryd.underlying9 h1
  have q2 := conv_rd (P := Tryd.prog) Tryd.underlying22 Tryd.underlying5 Tryd.underlying9 h2
  clear h1 h2
  go_enter Tryd.func18, Tryd.ntmps18
  go_wp2
  go_ret
  exact ⟨rfl, Below.refl _ _⟩

end Go.Proofs.YtindjacbocfniaaDoor
