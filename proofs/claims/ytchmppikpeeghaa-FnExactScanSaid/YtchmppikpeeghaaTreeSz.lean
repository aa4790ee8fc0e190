/-
  The laws' measure of trees.
-/
import Derived.Test.YtchmppikpeeghaaTree
namespace Go.Proofs.Ytchmppikpeeghaa
open Go.RowKit
set_option linter.unusedVariables false

/-- What is left of a measure. -/
def rest (left : Int) (n : Nat) : Int := if (n : Int) ≤ left then left - n else -1
theorem ret_rest {left : Int} {n : Nat} {x : Int} (h : (n : Int) ≤ left) (hx : x = left - n) : Ending.returned (.int .i64 x) = .returned (.int .i64 (rest left n)) := by rw [rest, if_pos h, hx]
theorem ret_none {left : Int} {n : Nat} (h : left < (n : Int)) : Ending.returned (.int .i64 (-1)) = .returned (.int .i64 (rest left n)) := by rw [rest, if_neg (by omega)]

set_option maxHeartbeats 400000 in
theorem szBytes (l : List Int) (v : Value) (left : Int) (h0 : 0 ≤ left) (h1 : left ≤ 1048576) (w : World) (hv : Rd w v (bs l)) :
    Calls Try.prog 49 #[v, .int .i64 left] w fun e w' => e = .returned (.int .i64 (rest left l.length)) ∧ Below w.heap.size w w' := by
  obtain ⟨A, c, rfl, hc1, hc2, _⟩ := hv
  rw [bs_length] at *
  unfold maxLen at hc2
  by_cases h : (l.length : Int) ≤ left
  · go_enter Try.func49, Try.ntmps49
    go_wp2
    go_ret
    exact ⟨ret_rest h rfl, Below.refl _ _⟩
  · have hn : left - (l.length : Int) < 0 := by omega
    go_enter Try.func49, Try.ntmps49
    go_wp2
    go_ret
    exact ⟨ret_none (by omega), Below.refl _ _⟩

set_option maxRecDepth 20000 in
set_option maxHeartbeats 800000 in
theorem szNames (ns : List (List Int)) (v : Value) (left : Int) (h0 : 0 ≤ left) (h1 : left ≤ 1048576) (w : World) (hv : RdN w v ns) :
    Calls Try.prog 41 #[v, .int .i64 left] w fun e w' => e = .returned (.int .i64 (rest left (ns.length + sumLen ns))) ∧ Below w.heap.size w w' := by
  obtain ⟨vs, hv, hl, hvs⟩ := hv
  obtain ⟨A, c, rfl, hc1, hc2, hrd⟩ := hv
  have HVL := hide hl
  rw [hl] at hc1 hrd ⊢
  unfold maxLen at hc2
  obtain ⟨n, hn⟩ : ∃ n, ns.length = n := ⟨_, rfl⟩
  by_cases h : (n : Int) ≤ left
  · obtain ⟨S, hS⟩ : ∃ S, sumLen ns = S := ⟨_, rfl⟩
    have HN := hide hn
    have HS := hide hS
    have HRD := hide hrd
    have HVS := hide hvs
    rw [hn] at hc1 ⊢
    rw [hS]
    clear hn hS hrd hvs
    go_enter Try.func41, Try.ntmps41
    go_wp2
    go_loopw [1, 5] (fun u i wr => ∃ k : Nat, k ≤ n ∧ i = .int .i64 k ∧ u = .int .i64 (left - n - sumLen (ns.take k)) ∧ (sumLen (ns.take k) : Int) ≤ left - n ∧ Below w.heap.size w wr)
      (fun _ i _ => n - (intOf i).toNat)
    case atStart => exact ⟨0, by omega, rfl, by simp [sumLen], by simp [sumLen]; omega, Below.refl _ _⟩
    case round =>
      obtain ⟨k, hk, rfl, rfl, hle, hbel⟩ := hrel
      have hnx := sumLen_take ns (k + 1)
      rw [HS.out] at hnx
      by_cases hlt : k < n
      · have hkl : k < ns.length := by rw [HN.out]; exact hlt
        have hs := sumLen_next hkl
        obtain ⟨b, off, rfl, hblt, hcell⟩ := HRD.out (by omega)
        have hvk : k < vs.length := by rw [HVL.out]; exact hkl
        obtain ⟨u, hu⟩ : ∃ u, vs[k]? = some u := ⟨_, List.getElem?_eq_getElem hvk⟩
        have hq := (hbel.cell (p := ⟨b, off + k, none⟩) hblt).trans (hcell k u hu)
        have hr := (HVS.out k u hu).below hbel
        have hcall := szBytes (ns.getD k []) u (left - n - sumLen (ns.take k)) (by omega) (by omega) wr hr
        generalize (ns.getD k []).length = m at *
        generalize hp : sumLen (ns.take k) = p at *
        generalize hp2 : sumLen (ns.take (k + 1)) = p2 at *
        have HB := hide hbel
        have k1 : (k : Int) < (n : Int) := by omega
        have HP2 := hide hp2
        clear hbel hcell hr hp hp2 hkl hvk hu
        by_cases hm : (m : Int) ≤ left - n - p
        · rw [rest, if_pos hm] at hcall
          have q1 : ¬ (left - (n : Int) - (p : Int) - (m : Int) < 0) := by omega
          go_wp2_with fail
          refine hcall.mono ?_
          rintro e w2 ⟨rfl, b2⟩
          go_wp2_with fail
          go_roundw
          case rel => exact ⟨k + 1, by omega, by go_num, by rw [HP2.out, hs]; go_num, by rw [HP2.out]; omega, HB.out.trans (b2.mono HB.out.size)⟩
          case measure => simp [intOf]; omega
        · rw [rest, if_neg hm] at hcall
          go_wp2_with fail
          refine hcall.mono ?_
          rintro e w2 ⟨rfl, b2⟩
          go_wp2_with fail
          go_ret
          exact ⟨ret_none (by omega), HB.out.trans (b2.mono HB.out.size)⟩
      · obtain rfl : k = n := by omega
        have he : sumLen (ns.take k) = S := by rw [← HS.out, List.take_of_length_le (by rw [HN.out]; omega)]
        rw [he] at hle ⊢
        have HB := hide hbel
        clear hbel he hnx
        go_wp2
        go_ret
        exact ⟨ret_rest (by omega) (by omega), HB.out⟩
  · have hneg : left - (n : Int) < 0 := by omega
    rw [hn] at hc1 ⊢
    clear hrd hvs
    go_enter Try.func41, Try.ntmps41
    go_wp2
    go_ret
    exact ⟨ret_none (by omega), Below.refl _ _⟩

def SzAt (t : T) : Prop := ∀ (q : Q) (left : Int) (w : World), 0 ≤ left → left ≤ 1048576 → TIn w t q →
  Calls Try.prog 14 #[q.val, .int .i64 left] w fun e w' => e = .returned (.int .i64 (rest left t.bulk)) ∧ Below w.heap.size w w'

set_option maxRecDepth 20000 in
set_option maxHeartbeats 800000 in
theorem szKids (ks : List T) (hks : ∀ t ∈ ks, SzAt t) (v : Value) (qs : List Q) (left : Int) (h0 : 0 ≤ left) (h1 : left ≤ 1048576) (w : World) (hv : Rd4 w v qs) (hq : TIns w ks qs) :
    Calls Try.prog 50 #[v, .int .i64 left] w fun e w' => e = .returned (.int .i64 (rest left (ks.length + T.bulks ks))) ∧ Below w.heap.size w w' := by
  have hl := hq.len
  obtain ⟨A, c, rfl, hc1, hc2, hrd⟩ := hv
  have HVL := hide hl
  rw [hl] at hc1 hrd ⊢
  unfold maxLen at hc2
  obtain ⟨n, hn⟩ : ∃ n, ks.length = n := ⟨_, rfl⟩
  by_cases h : (n : Int) ≤ left
  · obtain ⟨S, hS⟩ : ∃ S, T.bulks ks = S := ⟨_, rfl⟩
    have HN := hide hn
    have HS := hide hS
    have HRD := hide hrd
    have HQ := hide hq
    have HKS := hide hks
    rw [hn] at hc1 ⊢
    rw [hS]
    clear hn hS hrd hq hks hl
    go_enter Try.func50, Try.ntmps50
    go_wp2
    go_loopw [1, 5] (fun u i wr => ∃ k : Nat, k ≤ n ∧ i = .int .i64 k ∧ u = .int .i64 (left - n - T.bulks (ks.take k)) ∧ (T.bulks (ks.take k) : Int) ≤ left - n ∧ Below w.heap.size w wr)
      (fun _ i _ => n - (intOf i).toNat)
    case atStart => exact ⟨0, by omega, rfl, by simp [T.bulks], by simp [T.bulks]; omega, Below.refl _ _⟩
    case round =>
      obtain ⟨k, hk, rfl, rfl, hle, hbel⟩ := hrel
      have hnx := T.bulks_take ks (k + 1)
      rw [HS.out] at hnx
      by_cases hlt : k < n
      · have hkl : k < ks.length := by rw [HN.out]; exact hlt
        have hs := T.bulks_next hkl
        obtain ⟨b, off, rfl, hblt, hcell⟩ := HRD.out (by omega)
        obtain ⟨q, hqk, hqt⟩ := HQ.out.at_ k ks[k] (List.getElem?_eq_getElem hkl)
        obtain ⟨e0, e1, e2, e3⟩ := hcell k q hqk
        have hld : wr.cell? ⟨b, off + k * 4, none⟩ = some (.int .i64 q.k) ∧ wr.cell? ⟨b, off + k * 4 + 1, none⟩ = some q.d ∧ wr.cell? ⟨b, off + k * 4 + 2, none⟩ = some q.n ∧ wr.cell? ⟨b, off + k * 4 + 3, none⟩ = some q.c := by
          rw [Nat.mul_comm k 4]
          exact ⟨(hbel.cell (p := ⟨b, off + 4 * k, none⟩) hblt).trans e0, (hbel.cell (p := ⟨b, off + (4 * k + 1), none⟩) hblt).trans e1, (hbel.cell (p := ⟨b, off + (4 * k + 2), none⟩) hblt).trans e2, (hbel.cell (p := ⟨b, off + (4 * k + 3), none⟩) hblt).trans e3⟩
        have hcall := HKS.out ks[k] (List.getElem_mem hkl) q (left - n - T.bulks (ks.take k)) wr (by omega) (by omega) (hqt.below hbel)
        generalize (ks[k]).bulk = m at *
        generalize hp : T.bulks (ks.take k) = p at *
        generalize hp2 : T.bulks (ks.take (k + 1)) = p2 at *
        have HB := hide hbel
        have HLD := hide hld
        have k1 : (k : Int) < (n : Int) := by omega
        have HP2 := hide hp2
        clear hbel hcell hp hp2 hkl hqk hqt e0 e1 e2 e3 hld
        by_cases hm : (m : Int) ≤ left - n - p
        · rw [rest, if_pos hm] at hcall
          have q1 : ¬ (left - (n : Int) - (p : Int) - (m : Int) < 0) := by omega
          go_wp2_with (refine wpList_load4 rfl _ _ rfl b _ rfl q _ Try.underlying26 rfl (by kernel_rfl) HLD.out ?_)
          refine hcall.mono ?_
          rintro e w2 ⟨rfl, b2⟩
          go_wp2_with fail
          go_roundw
          case rel => exact ⟨k + 1, by omega, by go_num, by rw [HP2.out, hs]; go_num, by rw [HP2.out]; omega, HB.out.trans (b2.mono HB.out.size)⟩
          case measure => simp [intOf]; omega
        · rw [rest, if_neg hm] at hcall
          go_wp2_with (refine wpList_load4 rfl _ _ rfl b _ rfl q _ Try.underlying26 rfl (by kernel_rfl) HLD.out ?_)
          refine hcall.mono ?_
          rintro e w2 ⟨rfl, b2⟩
          go_wp2_with fail
          go_ret
          exact ⟨ret_none (by omega), HB.out.trans (b2.mono HB.out.size)⟩
      · obtain rfl : k = n := by omega
        have he : T.bulks (ks.take k) = S := by rw [← HS.out, List.take_of_length_le (by rw [HN.out]; omega)]
        rw [he] at hle ⊢
        have HB := hide hbel
        clear hbel he hnx
        go_wp2
        go_ret
        exact ⟨ret_rest (by omega) (by omega), HB.out⟩
  · have hneg : left - (n : Int) < 0 := by omega
    rw [hn] at hc1 ⊢
    clear hrd
    go_enter Try.func50, Try.ntmps50
    go_wp2
    go_ret
    exact ⟨ret_none (by omega), Below.refl _ _⟩

theorem rest_in {left : Int} {n : Nat} (h0 : 0 ≤ left) (h1 : left ≤ 1048576) : (0 ≤ rest left n → rest left n = left - n ∧ rest left n ≤ 1048576) ∧ (rest left n < 0 → rest left n = -1 ∧ left < n) := by
  unfold rest
  split
  · constructor
    · intro _; omega
    · intro h; omega
  · constructor
    · intro h; omega
    · intro _; omega

set_option maxRecDepth 20000 in
set_option maxHeartbeats 1600000 in
theorem szTree : ∀ t : T, SzAt t := by
  intro t
  induction t using T.ind with
  | h k d ns ks ih =>
    intro q left w h0 h1 hq
    rw [TIn] at hq
    obtain ⟨rfl, hd, hn, qs, hk, hks⟩ := hq
    have c1 := fun W (hb : Below w.heap.size w W) => szBytes d q.d left h0 h1 W (hd.below hb)
    have c2 := fun left2 h0 h1 W (hb : Below w.heap.size w W) => szNames ns q.n left2 h0 h1 W (hn.below hb)
    have c3 := fun left2 h0 h1 W (hb : Below w.heap.size w W) => szKids ks ih q.c qs left2 h0 h1 W (hk.below hb) (TIns.mk hks.len fun i t q h6 h7 => by
      obtain ⟨q', h8, h9⟩ := hks.at_ i t h6
      obtain rfl : q' = q := Option.some.inj (h8.symm.trans h7)
      exact h9.below hb)
    rw [T.bulk]
    generalize hD : d.length = D at *
    generalize hN : ns.length + sumLen ns = N at *
    generalize hK : ks.length + T.bulks ks = K at *
    have C1 := hide c1
    have C2 := hide c2
    have C3 := hide c3
    clear c1 c2 c3 ih hd hn hk hks hD hN hK
    obtain ⟨wa, hwa⟩ : ∃ wa, w.alloc (.cells #[.int .i64 q.k, q.d, q.n, q.c] 26) = wa := ⟨_, rfl⟩
    have b0 : Below w.heap.size w wa := by rw [← hwa]; exact (Below.refl _ _).alloc (Nat.le_refl _) _
    have hz : wa.heap.size = w.heap.size + 1 := by rw [← hwa]; simp
    have hbox : wa.heap[w.heap.size]? = some (.cells #[.int .i64 q.k, q.d, q.n, q.c] 26 (0, 0)) := by rw [← hwa]; exact heap_alloc_new w _
    have cells : ∀ W, Below wa.heap.size wa W → W.cell? ⟨w.heap.size, 2, none⟩ = some q.n ∧ W.cell? ⟨w.heap.size, 3, none⟩ = some q.c := fun W hb => by
      have h := (hb.block w.heap.size (by omega)).trans hbox
      exact ⟨by rw [cell_of_row W _ 2 _ _ _ h]; rfl, by rw [cell_of_row W _ 3 _ _ _ h]; rfl⟩
    have CELLS := hide cells
    have a1 := C1.out _ b0
    have x1 : wa.cell? ⟨w.heap.size, 1, none⟩ = some q.d := by rw [cell_of_row wa _ 1 _ _ _ hbox]; rfl
    clear cells hbox
    by_cases hm : (D : Int) ≤ left
    · rw [rest, if_pos hm] at a1
      go_enter Try.func14, Try.ntmps14
      go_wp2_with fail
      refine a1.mono ?_
      rintro e w1 ⟨rfl, b1⟩
      have d1 := b0.trans (b1.mono b0.size)
      obtain ⟨x2, x3⟩ := CELLS.out w1 b1
      have q1 : ¬ (left - (D : Int) < 0) := by omega
      have a2 := C2.out (left - D) (by omega) (by omega) w1 d1
      clear a1
      by_cases hm2 : (N : Int) ≤ left - D
      · rw [rest, if_pos hm2] at a2
        go_wp2_with fail
        refine a2.mono ?_
        rintro e w2 ⟨rfl, b2⟩
        have d2 := d1.trans (b2.mono d1.size)
        have b2' : Below wa.heap.size wa w2 := b1.trans (b2.mono b1.size)
        obtain ⟨y2, y3⟩ := CELLS.out w2 b2'
        have q2 : ¬ (left - (D : Int) - (N : Int) < 0) := by omega
        have a3 := C3.out (left - D - N) (by omega) (by omega) w2 d2
        clear a2 x2 x3
        by_cases hm3 : (K : Int) ≤ left - D - N
        · rw [rest, if_pos hm3] at a3
          have q3 : ¬ (left - (D : Int) - (N : Int) - (K : Int) < 0) := by omega
          go_wp2_with fail
          refine a3.mono ?_
          rintro e w3 ⟨rfl, b3⟩
          go_wp2_with fail
          go_ret
          exact ⟨ret_rest (by omega) (by omega), d2.trans (b3.mono d2.size)⟩
        · rw [rest, if_neg hm3] at a3
          go_wp2_with fail
          refine a3.mono ?_
          rintro e w3 ⟨rfl, b3⟩
          go_wp2_with fail
          go_ret
          exact ⟨ret_none (by omega), d2.trans (b3.mono d2.size)⟩
      · rw [rest, if_neg hm2] at a2
        go_wp2_with fail
        refine a2.mono ?_
        rintro e w2 ⟨rfl, b2⟩
        go_wp2_with fail
        go_ret
        exact ⟨ret_none (by omega), d1.trans (b2.mono d1.size)⟩
    · rw [rest, if_neg hm] at a1
      go_enter Try.func14, Try.ntmps14
      go_wp2_with fail
      refine a1.mono ?_
      rintro e w1 ⟨rfl, b1⟩
      go_wp2_with fail
      go_ret
      exact ⟨ret_none (by omega), b0.trans (b1.mono b0.size)⟩

end Go.Proofs.Ytchmppikpeeghaa
