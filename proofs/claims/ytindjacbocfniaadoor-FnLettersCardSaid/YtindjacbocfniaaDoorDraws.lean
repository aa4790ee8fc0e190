/-
  The draws of rows.
-/
import Derived.Test.YtindjacbocfniaaDoorDraw
namespace Go.Proofs.YtindjacbocfniaaDoor
open Go.RowKit
set_option linter.unusedVariables false

def ints (L : List Int) : List Value := L.map (Value.int .i64)
theorem ints_len (L : List Int) : (ints L).length = L.length := by simp [ints]
theorem ints_get {L : List Int} {i : Nat} (h : i < L.length) : (ints L)[i]? = some (.int .i64 (L.getD i 0)) := by
  simp [ints, List.getElem?_eq_getElem h, List.getD]
theorem rd_ints (w : World) (L : List Int) (t : TypeId) (h : L.length ≤ 1000) : Rd (w.alloc (.cells (ints L).toArray t)) (.slice (some ⟨w.heap.size, 0, none⟩) L.length L.length) (ints L) := by
  refine ⟨_, L.length, by rw [ints_len], by rw [ints_len]; omega, by simp only [maxLen]; omega, fun _ => ⟨w.heap.size, 0, rfl, by simp, fun i u hu => ?_⟩⟩
  rw [World.cell?_alloc_at _ _ _ _ rfl]
  simpa using hu

theorem Outside.alloc {lo hi : Nat} {a w : World} (h : Outside lo hi a w) (o : Obj) : Outside lo hi a (w.alloc o) := h.trans (Outside.of_below ((Below.refl _ w).alloc (Nat.le_refl _) o) lo hi)
theorem Outside.row {lo hi B n size : Nat} {a w w' : World} {e : TypeId} {v : Value} {xs : List Value} (h : Outside lo hi a w) (hown : w.ownsRow B e size v n xs) (hB : a.heap.size ≤ B) (hg : w.grownBy w' v.ownBlock) : Outside lo hi a w' :=
  ⟨hg.os.trans h.os, hg.tape.trans h.tape, hg.output.trans h.output, Nat.le_trans h.size hg.size, fun k hk ho => (hg.block k (Nat.lt_of_lt_of_le hk h.size) fun e => by
    have := (hown.lt k e.symm).1
    omega).trans (h.block k hk ho)⟩
theorem Cur.row {B n size g m : Nat} {w w' : World} {e : TypeId} {u v : Value} {xs : List Value} (hc : Cur w g u m) (hown : w.ownsRow B e size v n xs) (hB : g < B) (hg : w.grownBy w' v.ownBlock) : Cur w' g u m := by
  obtain ⟨i, h, hi, hc⟩ := hc
  exact ⟨i, h, hi, (hg.block g hc.lt fun e => by
    have := (hown.lt g e.symm).1
    omega).trans hc⟩

/-- A slice whose block lies above the blocks that have turned. -/
theorem Rd.outsideHi {w w' : World} {g n c : Nat} {b0 : Nat} {xs : List Value} (h : Rd w (.slice (some ⟨b0, 0, none⟩) n c) xs) (ho : Outside g (g + 1) w w') (hb : g < b0) : Rd w' (.slice (some ⟨b0, 0, none⟩) n c) xs := by
  obtain ⟨A2, c2, e, h1, h2, h3⟩ := h
  injection e with e1 e2 e3
  subst e1 e2 e3
  refine ⟨_, _, rfl, h1, h2, fun hp => ?_⟩
  obtain ⟨b, off, e4, hlt, hc⟩ := h3 hp
  injection e4 with e5
  injection e5 with e6 e7
  subst e6 e7
  refine ⟨_, _, rfl, Nat.lt_of_lt_of_le hlt ho.size, fun i u hu => ?_⟩
  have hh := ho.block b0 hlt (.inr (by omega))
  have := hc i u hu
  unfold World.cell? at this ⊢
  rw [hh]
  exact this

theorem getD_mem {L : List Int} {i : Nat} (h : i < L.length) : L.getD i 0 ∈ L := by
  simp [List.getD, List.getElem?_eq_getElem h]

set_option maxHeartbeats 800000 in
theorem drawOnce (n : Int) (hn : n ≤ 4294967296) (g : Nat) (v : Value) (l : List Int) (hB : Byt l) (w0 w : World) (hv : Rd w0 v (bs l)) (hb : Below w0.heap.size w0 w) (hg : w0.heap.size ≤ g) (hc : Cur w g v l.length) :
    Calls Tryd.prog 38 #[.pointer (some ⟨g, 0, none⟩), .int .i64 n] w fun e w' => ∃ x : Bool, e = .returned (.bool x) ∧ Cur w' g v l.length ∧ Outside g (g + 1) w w' := by
  have h0 := drawBelow n hn g v l hB w0 w hv hb hg hc
  clear hv hb hc
  go_enter Tryd.func38, Tryd.ntmps38
  go_wp2_with fail
  refine h0.mono ?_
  rintro e w1 ⟨x, rfl, x0, c1, o1⟩
  go_wp2_with fail
  go_ret
  exact ⟨_, rfl, c1, o1⟩

set_option maxHeartbeats 800000 in
theorem drawPick (L : List Int) (h1 : 1 ≤ L.length) (h2 : L.length ≤ 256) (vl : Value) (g : Nat) (v : Value) (l : List Int) (hB : Byt l) (w0 w : World) (hL : ∀ W, Outside g (g + 1) w W → Rd W vl (ints L)) (hv : Rd w0 v (bs l)) (hb : Below w0.heap.size w0 w) (hg : w0.heap.size ≤ g) (hc : Cur w g v l.length) :
    Calls Tryd.prog 35 #[.pointer (some ⟨g, 0, none⟩), vl] w fun e w' => ∃ x : Int, e = .returned (.int .i64 x) ∧ x ∈ L ∧ Cur w' g v l.length ∧ Outside g (g + 1) w w' := by
  have h0 := drawBelow L.length (by omega) g v l hB w0 w hv hb hg hc
  obtain ⟨A, c, rfl, hc1, hc2, _⟩ := hL w (Outside.refl _ _ _)
  rw [ints_len] at *
  unfold maxLen at hc2
  have HL := hide hL
  clear hv hb hc hL
  go_enter Tryd.func35, Tryd.ntmps35
  go_wp2_with fail
  refine h0.mono ?_
  rintro e w1 ⟨x, rfl, ⟨x0, x1⟩, c1, o1⟩
  obtain ⟨i, rfl⟩ := Int.eq_ofNat_of_zero_le x0
  have hi : i < L.length := by omega
  obtain ⟨A2, c2, e2, _, _, hrd⟩ := HL.out w1 o1
  injection e2 with e3 _ e4
  subst e3 e4
  rw [ints_len] at *
  obtain ⟨b, off, rfl, hblt, hcell⟩ := hrd (by omega)
  have hq := hcell i _ (ints_get hi)
  have hm := getD_mem hi
  generalize L.getD i 0 = y at *
  have k1 : (i : Int) < (L.length : Int) := by omega
  clear hcell hrd
  go_wp2_with fail
  go_ret
  exact ⟨_, rfl, hm, c1, o1⟩

set_option maxRecDepth 20000 in
set_option maxHeartbeats 1600000 in
theorem drawSome (most : Int) (hm0 : 0 ≤ most) (hm : most ≤ 1000) (g : Nat) (v : Value) (l : List Int) (hB : Byt l) (w0 w : World) (hv : Rd w0 v (bs l)) (hb : Below w0.heap.size w0 w) (hg : w0.heap.size ≤ g) (hc : Cur w g v l.length) :
    Calls Tryd.prog 34 #[.pointer (some ⟨g, 0, none⟩), .int .i64 most] w fun e w' => ∃ (v' : Value) (l' : List Int), e = .returned v' ∧ Byt l' ∧ (l'.length : Int) ≤ most ∧ Own 5 w.heap.size w'.heap.size w' v' (bs l') ∧ Cur w' g v l.length ∧ Outside g (g + 1) w w' := by
  obtain ⟨i0, hi0, hz0, hz1, hz2⟩ := info_parts u8info
  have hglt := hc.lt
  have h0 := drawBelow (most + 1) (by omega) g v l hB w0 w hv hb hg hc
  have key : ∀ W, Outside g (g + 1) w W → Cur W g v l.length → Calls Tryd.prog 40 #[.pointer (some ⟨g, 0, none⟩)] W fun e w' => ∃ x : Int, e = .returned (.int .i64 x) ∧ 0 ≤ x ∧ x ≤ 255 ∧ Cur w' g v l.length ∧ Outside g (g + 1) W w' := fun W hO hC =>
    drawByte g v l hB w0 W hv (hO.below hb hg hb.size) hg hC
  have KEY := hide key
  clear hv hb hc key
  go_enter Tryd.func34, Tryd.ntmps34
  go_wp2_with fail
  refine h0.mono ?_
  rintro e w1 ⟨x, rfl, ⟨x0, x1⟩, c1, o1⟩
  obtain ⟨n, rfl⟩ := Int.eq_ofNat_of_zero_le x0
  have hn : (n : Int) ≤ most := by omega
  have hsz1 := o1.size
  clear h0
  go_wp2
  go_loopw [5, 7] (fun v5 q wr => ∃ (k : Nat) (xs : List Int), k ≤ n ∧ q = .int .i64 k ∧ xs.length = k ∧ Byt xs ∧ wr.ownsRow w.heap.size 5 1 v5 k (bs xs) ∧ Cur wr g v l.length ∧ Outside g (g + 1) w wr)
    (fun _ q _ => n - (intOf q).toNat)
  case atStart => exact ⟨0, [], by omega, rfl, rfl, Byt.nil, World.ownsRow_nil _ _ _ _, c1, o1⟩
  case round =>
    obtain ⟨k, xs, hk, rfl, hxl, hxB, hown, hcur, hO⟩ := hrel
    have hsz := hO.size
    by_cases hlt : k < n
    · have hcall := KEY.out wr hO hcur
      have HO := hide hown
      have HU := hide hO
      have HXL := hide hxl
      have HXB := hide hxB
      clear hown hcur hO hxl hxB
      go_wp2_with fail
      refine hcall.mono ?_
      rintro e w2 ⟨y, rfl, y0, y1, c2, o2⟩
      have hs2 := o2.size
      have own2 := ((Own.of HO.out (by rw [bs_length, HXL.out])).outside o2 (.inr (by omega))).1
      go_wp2_with (at_builtin; go_loud (refine wpList_app _ rfl _ _ _ rfl w.heap.size 5 i0 _ 1 Tryd.underlying22 hi0 hz0 hz1 hz2 rfl _ _ _ rfl (own2.alloc _) _ _ rfl (rd_one _ _ _) (bs_one _) (by rw [bs_length, bs_length, HXL.out]; simp only [maxLen, List.length_singleton]; omega) (by rw [bs_length, bs_length, HXL.out]; simp only [List.length_singleton]; omega) (by simp; omega) ?_); intro v3 w3 own3 gr3)
      go_roundw
      case rel => exact ⟨k + 1, xs ++ [y], by omega, by go_num, by rw [List.length_append, HXL.out]; rfl, HXB.out.app (Byt.one y0 y1), own_len (own_cells own3 (by rw [bs_append])) (by rw [bs_length, bs_length, HXL.out]; rfl), (c2.step ((Below.refl _ w2).alloc (Nat.le_refl _) _)).row (own2.alloc _) (by omega) gr3, ((HU.out.trans o2).alloc _).row (own2.alloc _) (Nat.le_refl _) gr3⟩
      case measure => simp [intOf]; omega
    · obtain rfl : k = n := by omega
      have HO := hide hown
      have HU := hide hO
      clear hown hO
      go_wp2
      go_ret
      exact ⟨_, xs, rfl, hxB, by rw [hxl]; exact hn, Own.of HO.out (by rw [bs_length, hxl]), hcur, HU.out⟩

set_option maxRecDepth 20000 in
set_option maxHeartbeats 1600000 in
theorem drawNew (l : List Int) (hB : Byt l) (v : Value) (w : World) (hv : Rd w v (bs l)) :
    Calls Tryd.prog 33 #[v] w fun e w' => ∃ g, e = .returned (.pointer (some ⟨g, 0, none⟩)) ∧ w.heap.size ≤ g ∧ Cur w' g v l.length ∧ Below w.heap.size w w' := by
  obtain ⟨A, c, rfl, hc1, hc2, hrd⟩ := hv
  rw [bs_length] at *
  unfold maxLen at hc2
  have HRD := hide hrd
  clear hrd
  go_enter Tryd.func33, Tryd.ntmps33
  go_wp2
  go_loopw [3, 4] (fun v3 q wr => ∃ (k : Nat) (h : Int), k ≤ l.length ∧ q = .int .i64 k ∧ v3 = .int .i64 h ∧ Below w.heap.size w wr)
    (fun _ q _ => l.length - (intOf q).toNat)
  case atStart => exact ⟨0, _, by omega, rfl, rfl, Below.refl _ _⟩
  case round =>
    obtain ⟨k, h, hk, rfl, rfl, hbel⟩ := hrel
    have hfin : ∀ h : Int, Cur (wr.alloc (.cells #[.slice A l.length c, .int .i64 0, .int .i64 h] 83)) wr.heap.size (.slice A l.length c) l.length := fun h => ⟨0, h, by omega, heap_alloc_new wr _⟩
    have HF := hide hfin
    have HB := hide hbel
    clear hbel hfin
    by_cases hlt : k < l.length
    · by_cases h4 : k < 4000
      · obtain ⟨b, off, rfl, hblt, hcell⟩ := HRD.out (by omega)
        have hq := (HB.out.cell (p := ⟨b, off + k, none⟩) hblt).trans (hcell k _ (bs_get hlt))
        generalize l.getD k 0 = y at *
        clear hcell
        go_wp2
        go_roundw
        case rel => exact ⟨k + 1, _, by omega, by go_num, rfl, HB.out⟩
        case measure => simp [intOf]; omega
      · go_wp2
        go_ret
        exact ⟨_, rfl, HB.out.size, HF.out h, HB.out.alloc HB.out.size _⟩
    · have k1 : ¬ (k : Int) < (l.length : Int) := by omega
      go_wp2
      go_ret
      exact ⟨_, rfl, HB.out.size, HF.out h, HB.out.alloc HB.out.size _⟩

/-- A draw of bytes: some bytes, no more than n. -/
def Drawn (w : World) (e : Ending) (w' : World) (n : Nat) : Prop := ∃ (v' : Value) (l' : List Int), e = .returned v' ∧ Byt l' ∧ l'.length ≤ n ∧ Own 5 w.heap.size w'.heap.size w' v' (bs l') ∧ Below w.heap.size w w'

end Go.Proofs.YtindjacbocfniaaDoor
