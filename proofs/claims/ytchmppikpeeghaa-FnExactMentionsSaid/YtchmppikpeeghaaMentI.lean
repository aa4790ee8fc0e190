/-
  The program's Mentions.
-/
import Derived.Test.YtchmppikpeeghaaMentP
import Derived.Test.YtchmppikpeeghaaNameOkI
import Derived.Test.YtchmppikpeeghaaShelfP
namespace Go.Proofs.Ytchmppikpeeghaa
open Go.RowKit Go.Shelf
set_option linter.unusedVariables false

/-- The library's own bound holds some number. -/
def MaxL (w : World) : Prop := ∃ m, w.cell? ⟨Try.laysM186_ren.g 1, 0, none⟩ = some (.int .i64 m)
theorem MaxL.step {w w' : World} (h : MaxL w) (hb : Below w.heap.size w w') : MaxL w' := by
  obtain ⟨m, hm⟩ := h
  refine ⟨m, (hb.cell (p := ⟨Try.laysM186_ren.g 1, 0, none⟩) ?_).trans hm⟩
  have := World.block_lt_of_cell? w _ hm
  simpa using this
/-- A slice at no address has no room. -/
def NilOk (v : Value) : Prop := ∀ n c, v = .slice none n c → c = 0
theorem Own.nilOk {e : TypeId} {lo hi : Nat} {w : World} {v : Value} {xs : List Value} (h : Own e lo hi w v xs) : NilOk v := by
  intro n c hv
  rcases h.1.2 with ⟨rfl, _⟩ | ⟨g, cap, cur, rfl, _⟩
  · injection hv with _ _ h3
    exact h3.symm
  · injection hv with h1
    cases h1
theorem cells_rd {w : World} {A : Addr} {n c : Nat} {l : List Int} (h : Rd w (.slice (some A) n c) (bs l)) : n = l.length ∧ l.length ≤ c ∧ ∀ i, i < l.length → w.cell? (A.add i) = some (.int .u8 (l.getD i 0)) := by
  obtain ⟨A', c', e, h1, h2, h3⟩ := h
  injection e with e1 e2 e3
  subst e1 e2 e3
  rw [bs_length] at *
  refine ⟨rfl, h1, fun i hi => ?_⟩
  obtain ⟨b, off, e4, _, hc⟩ := h3 (by omega)
  injection e4 with e5
  subst e5
  rw [Addr.add_lit]
  exact hc i _ (bs_get hi)

theorem contains_nil (p2 : Option Addr) (k c2 : Nat) (w : World) (hk : k ≤ 9223372036854775807) (h1 : k = 1 → ∃ b2 o2 cv, p2 = some ⟨b2, o2, none⟩ ∧ w.cell? ⟨b2, o2, none⟩ = some (.int .u8 cv)) :
    Calls Try.prog 67 #[.slice none 0 0, .slice p2 k c2] w fun e w' => e = .returned (.bool (decide (k = 0))) ∧ w' = w := Any.bytes_Contains_nil Try.laysM186.ton186 p2 k c2 w hk h1
theorem contains_at (a1 a2 : Addr) (n c1 k c2 : Nat) (xs ys : List Int) (m : Int) (w : World) (hx : xs.length = n) (hy : ys.length = k) (hr1 : ∀ x ∈ xs, 0 ≤ x ∧ x < 256) (hr2 : ∀ y ∈ ys, 0 ≤ y ∧ y < 256)
    (hc1 : ∀ i, i < n → w.cell? (a1.add i) = some (.int .u8 (xs.getD i 0))) (hc2 : ∀ i, i < k → w.cell? (a2.add i) = some (.int .u8 (ys.getD i 0))) (hcap : n ≤ c1) (hs : n < 4294967281) (hk : k ≤ 9223372036854775807) (hm : w.cell? ⟨Try.laysM186_ren.g 1, 0, none⟩ = some (.int .i64 m)) :
    Calls Try.prog 67 #[.slice (some a1) n c1, .slice (some a2) k c2] w fun e w' => e = .returned (.bool (Lib.contains (Lib.bytesOf xs) (Lib.bytesOf ys))) ∧ ∃ q, w' = w.drewN q :=
  Any.bytes_Contains_at Try.laysM186.ton186 a1 a2 n c1 k c2 xs ys m w hx hy hr1 hr2 hc1 hc2 hcap hs hk hm

set_option maxRecDepth 100000 in
theorem containsBytes (b n : List Int) (hB : Byt b) (hN : Byt n) (h0 : 0 < n.length) (vb vn : Value) (w : World) (hb : Rd w vb (bs b)) (hn : Rd w vn (bs n)) (hv : NilOk vb) (hl : b.length ≤ 4000000000) (hln : n.length ≤ 4000000000) (hm : MaxL w) :
    Calls Try.prog 67 #[vb, vn] w fun e w' => e = .returned (.bool (contL b n)) ∧ Below w.heap.size w w' := by
  obtain ⟨m, hm⟩ := hm
  obtain ⟨A, c, rfl, _, _, _⟩ := id hb
  obtain ⟨A', c', rfl, _, _, hc'⟩ := id hn
  rw [bs_length] at hb hn hc' hv ⊢
  rw [bs_length]
  obtain ⟨b', off', rfl, _, _⟩ := hc' h0
  obtain ⟨_, hcap', hcell'⟩ := cells_rd hn
  cases A with
  | none =>
    have hb0 : b = [] := by
      obtain ⟨A2, c2, e, _, _, h3⟩ := hb
      rcases Nat.eq_zero_or_pos (bs b).length with h | h
      · rw [bs_length] at h; exact List.eq_nil_of_length_eq_zero h
      · obtain ⟨bb, off, hA, _⟩ := h3 h
        subst hA
        injection e with e1
        cases e1
    subst hb0
    obtain rfl : c = 0 := hv _ _ rfl
    have hc : contL [] n = decide (n.length = 0) := by
      rw [decide_eq_false (by omega), contL, contF_end (by simp; omega)]
    rw [hc]
    have h2 := contains_nil (some ⟨b', off', none⟩) n.length c' w (by omega) (fun h1 => ⟨b', off', n.getD 0 0, rfl, by
      have := hcell' 0 (by omega)
      rw [Addr.add_lit] at this
      simpa using this⟩)
    have h3 : Calls Try.prog 67 #[.slice none 0 0, .slice (some ⟨b', off', none⟩) n.length c'] w fun e w' => e = .returned (.bool (decide (n.length = 0))) ∧ Below w.heap.size w w' := h2.mono fun e w' h => ⟨h.1, h.2 ▸ Below.refl _ _⟩
    rw [List.length_nil]
    exact h3
  | some A =>
    obtain ⟨_, hcap, hcell⟩ := cells_rd hb
    rw [← contL_lib hB hN h0]
    have h2 := contains_at A ⟨b', off', none⟩ b.length c n.length c' b n m w rfl rfl (fun x hx => by have := hB x hx; omega) (fun x hx => by have := hN x hx; omega) hcell hcell' hcap (by omega) (by omega) hm
    exact h2.mono fun e w' h => ⟨h.1, by obtain ⟨_, q, hw⟩ := h; rw [hw]; exact below_drewN (Below.refl _ _) q⟩

set_option maxHeartbeats 400000 in
theorem implMentions (b n : List Int) (hB : Byt b) (hN : Byt n) (vb vn : Value) (w : World) (hb : Rd w vb (bs b)) (hn : Rd w vn (bs n)) (hv : NilOk vb) (hl : b.length ≤ 4000000000) (hln : n.length ≤ 4000000000) (hm : MaxL w) :
    Calls Try.prog 40 #[vb, vn] w fun e w' => e = .returned (.bool (mentL b n)) ∧ Below w.heap.size w w' := by
  have h1 := implNameOk n hN vn w hn (by omega)
  rw [mentL]
  cases hk : nameOk n with
  | false =>
    rw [hk] at h1
    have H1 := hide h1
    clear h1 hk hb hn hv hm
    go_enter Try.func40, Try.ntmps40
    go_wp2_with fail
    refine H1.out.mono ?_
    rintro e w1 ⟨rfl, b1⟩
    go_wp2_with fail
    go_ret
    exact ⟨rfl, b1⟩
  | true =>
    rw [hk] at h1
    have h16 : 0 < n.length := by
      rw [nameOk, Bool.and_eq_true, decide_eq_true_eq] at hk
      omega
    have h2 := fun W (hb' : Below w.heap.size w W) => containsBytes b n hB hN h16 vb vn W (hb.below hb') (hn.below hb') hv hl hln (hm.step hb')
    rw [Bool.true_and]
    have H1 := hide h1
    have H2 := hide h2
    clear h1 h2 hk hb hn hv hm
    go_enter Try.func40, Try.ntmps40
    go_wp2_with fail
    refine H1.out.mono ?_
    rintro e w1 ⟨rfl, b1⟩
    go_wp2_with fail
    refine (H2.out w1 b1).mono ?_
    rintro e w2 ⟨rfl, b2⟩
    go_wp2_with fail
    go_ret
    exact ⟨rfl, b1.trans (b2.mono b1.size)⟩

end Go.Proofs.Ytchmppikpeeghaa
