/-
  The library's Count and Index, at the program.
-/
import Derived.Test.YtchmppikpeeghaaDoorRewQ
import Derived.Test.YtchmppikpeeghaaDoorShelfC
import Derived.Test.YtchmppikpeeghaaDoorShelfP
namespace Go.Proofs.YtchmppikpeeghaaDoor
open Go.RowKit Go.Shelf
set_option linter.unusedVariables false

/-- The library's own bound holds some number. -/
def MaxL (w : World) : Prop := ∃ m, w.cell? ⟨0, 0, none⟩ = some (.int .i64 m)
theorem MaxL.step {w w' : World} (h : MaxL w) (hb : Below w.heap.size w w') : MaxL w' := by
  obtain ⟨m, hm⟩ := h
  refine ⟨m, (hb.cell (p := ⟨0, 0, none⟩) ?_).trans hm⟩
  have := World.block_lt_of_cell? w _ hm
  simpa using this
/-- A slice at no address has no room. -/
def NilOk (v : Value) : Prop := ∀ n c, v = .slice none n c → c = 0
theorem Own.nilOk {e : TypeId} {lo hi : Nat} {w : World} {v : Value} {xs : List Value} (h : Own e lo hi w v xs) : NilOk v := by
  intro n c hv
  rcases h.1.2 with ⟨rfl, _⟩ | ⟨g, cap, cur, rfl, _⟩
  · injection hv with _ _ h3
    exact h3.symm
  · injection hv with h1
    cases h1
theorem cells_rd {w : World} {A : Addr} {n c : Nat} {l : List Int} (h : Rd w (.slice (some A) n c) (bs l)) : n = l.length ∧ l.length ≤ c ∧ ∀ i, i < l.length → w.cell? (A.add i) = some (.int .u8 (l.getD i 0)) := by
  obtain ⟨A', c', e, h1, h2, h3⟩ := h
  injection e with e1 e2 e3
  subst e1 e2 e3
  rw [bs_length] at *
  refine ⟨rfl, h1, fun i hi => ?_⟩
  obtain ⟨b, off, e4, _, hc⟩ := h3 (by omega)
  injection e4 with e5
  subst e5
  rw [Addr.add_lit]
  exact hc i _ (bs_get hi)

theorem count_nil (p2 : Option Addr) (k c2 : Nat) (w : World) (h2 : 2 ≤ k) (hk : k ≤ 9223372036854775807) :
    Calls Tryd.prog 18 #[.slice none 0 0, .slice p2 k c2] w fun e w' => e = .returned (.int .i64 0) ∧ w' = w := Any.bytes_Count_nil Tryd.laysC13 p2 k c2 w h2 hk
theorem count_at (a1 a2 : Addr) (n c1 k c2 : Nat) (xs ys : List Int) (m : Int) (w : World) (hx : xs.length = n) (hy : ys.length = k) (hr1 : ∀ x ∈ xs, 0 ≤ x ∧ x < 256) (hr2 : ∀ y ∈ ys, 0 ≤ y ∧ y < 256)
    (hc1 : ∀ i, i < n → w.cell? (a1.add i) = some (.int .u8 (xs.getD i 0))) (hc2 : ∀ i, i < k → w.cell? (a2.add i) = some (.int .u8 (ys.getD i 0))) (hcap : n ≤ c1) (hs : n < 4294967281) (hk : k ≤ 9223372036854775807) (h2 : 2 ≤ k) (hm : w.cell? ⟨0, 0, none⟩ = some (.int .i64 m)) :
    Calls Tryd.prog 18 #[.slice (some a1) n c1, .slice (some a2) k c2] w fun e w' => e = .returned (.int .i64 (Lib.count (Lib.bytesOf xs) (Lib.bytesOf ys))) ∧ ∃ q, w' = w.drewN q :=
  Any.bytes_Count_at Tryd.laysC13 a1 a2 n c1 k c2 xs ys m w hx hy hr1 hr2 hc1 hc2 hcap hs hk h2 hm
theorem index_at (a1 a2 : Addr) (n c1 k c2 : Nat) (xs ys : List Int) (m : Int) (w : World) (hx : xs.length = n) (hy : ys.length = k) (hr1 : ∀ x ∈ xs, 0 ≤ x ∧ x < 256) (hr2 : ∀ y ∈ ys, 0 ≤ y ∧ y < 256)
    (hc1 : ∀ i, i < n → w.cell? (a1.add i) = some (.int .u8 (xs.getD i 0))) (hc2 : ∀ i, i < k → w.cell? (a2.add i) = some (.int .u8 (ys.getD i 0))) (hcap : n ≤ c1) (hs : n < 4294967281) (hk : k ≤ 9223372036854775807) (hm : w.cell? ⟨0, 0, none⟩ = some (.int .i64 m)) :
    Calls Tryd.prog 19 #[.slice (some a1) n c1, .slice (some a2) k c2] w fun e w' => e = .returned (.int .i64 (Lib.index (Lib.bytesOf xs) (Lib.bytesOf ys))) ∧ ∃ q, w' = w.drewN q :=
  Any.bytes_Index_at Tryd.laysM185.ton185 a1 a2 n c1 k c2 xs ys m w hx hy hr1 hr2 hc1 hc2 hcap hs hk hm

set_option maxRecDepth 100000 in
theorem countBytes (b n : List Int) (hB : Byt b) (hN : Byt n) (h2 : 2 ≤ n.length) (vb vn : Value) (w : World) (hb : Rd w vb (bs b)) (hn : Rd w vn (bs n)) (hv : NilOk vb) (hl : b.length ≤ 4000000000) (hln : n.length ≤ 4000000000) (hm : MaxL w) :
    Calls Tryd.prog 18 #[vb, vn] w fun e w' => e = .returned (.int .i64 (Lib.count (Lib.bytesOf b) (Lib.bytesOf n))) ∧ Below w.heap.size w w' := by
  obtain ⟨m, hm⟩ := hm
  obtain ⟨A, c, rfl, _, _, _⟩ := id hb
  obtain ⟨A', c', rfl, _, _, hc'⟩ := id hn
  rw [bs_length] at hb hn hc' hv ⊢
  rw [bs_length]
  obtain ⟨b', off', rfl, _, _⟩ := hc' (by omega)
  obtain ⟨_, hcap', hcell'⟩ := cells_rd hn
  cases A with
  | none =>
    have hb0 : b = [] := by
      obtain ⟨A2, c2, e, _, _, h3⟩ := hb
      rcases Nat.eq_zero_or_pos (bs b).length with h | h
      · rw [bs_length] at h; exact List.eq_nil_of_length_eq_zero h
      · obtain ⟨bb, off, hA, _⟩ := h3 h
        subst hA
        injection e with e1
        cases e1
    subst hb0
    obtain rfl : c = 0 := hv _ _ rfl
    have hc : Lib.count (Lib.bytesOf []) (Lib.bytesOf n) = 0 := Lib.count_miss (by
      rcases Lib.index_spec (Lib.bytesOf []) (Lib.bytesOf n) with ⟨h1, _⟩ | ⟨i, h1, h3, h4, _⟩
      · exact h1
      · rcases Lib.occAt_room h4 with h5 | h5
        · rw [bytesOf_len, bytesOf_len, List.length_nil] at h5; omega
        · have := congrArg List.length h5; rw [bytesOf_len] at this; simp at this; rw [this] at h2; simp at h2)
    rw [hc]
    exact (count_nil (some ⟨b', off', none⟩) n.length c' w h2 (by omega)).mono fun e w' h => ⟨h.1, h.2 ▸ Below.refl _ _⟩
  | some A =>
    obtain ⟨_, hcap, hcell⟩ := cells_rd hb
    have h3 := count_at A ⟨b', off', none⟩ b.length c n.length c' b n m w rfl rfl (fun x hx => by have := hB x hx; omega) (fun x hx => by have := hN x hx; omega) hcell hcell' hcap (by omega) (by omega) h2 hm
    exact h3.mono fun e w' h => ⟨h.1, by obtain ⟨_, q, hw⟩ := h; rw [hw]; exact below_drewN (Below.refl _ _) q⟩
theorem indexBytes (b n : List Int) (hB : Byt b) (hN : Byt n) (h0 : 0 < n.length) (hb0 : 0 < b.length) (vb vn : Value) (w : World) (hb : Rd w vb (bs b)) (hn : Rd w vn (bs n)) (hl : b.length ≤ 4000000000) (hln : n.length ≤ 4000000000) (hm : MaxL w) :
    Calls Tryd.prog 19 #[vb, vn] w fun e w' => e = .returned (.int .i64 (Lib.index (Lib.bytesOf b) (Lib.bytesOf n))) ∧ Below w.heap.size w w' := by
  obtain ⟨m, hm⟩ := hm
  obtain ⟨A, c, rfl, _, _, hc⟩ := id hb
  obtain ⟨A', c', rfl, _, _, hc'⟩ := id hn
  rw [bs_length] at hb hn hc hc' ⊢
  rw [bs_length]
  obtain ⟨b1, off1, rfl, _, _⟩ := hc hb0
  obtain ⟨b', off', rfl, _, _⟩ := hc' h0
  obtain ⟨_, hcap', hcell'⟩ := cells_rd hn
  obtain ⟨_, hcap, hcell⟩ := cells_rd hb
  have h3 := index_at ⟨b1, off1, none⟩ ⟨b', off', none⟩ b.length c n.length c' b n m w rfl rfl (fun x hx => by have := hB x hx; omega) (fun x hx => by have := hN x hx; omega) hcell hcell' hcap (by omega) (by omega) hm
  exact h3.mono fun e w' h => ⟨h.1, by obtain ⟨_, q, hw⟩ := h; rw [hw]; exact below_drewN (Below.refl _ _) q⟩

end Go.Proofs.YtchmppikpeeghaaDoor
