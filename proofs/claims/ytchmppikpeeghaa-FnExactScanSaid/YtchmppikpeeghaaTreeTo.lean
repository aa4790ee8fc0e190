/-
  The laws' copies of trees: each in blocks of its own, one behind the other.
-/
import Derived.Test.YtchmppikpeeghaaTreeSz
namespace Go.Proofs.Ytchmppikpeeghaa
open Go.RowKit
set_option linter.unusedVariables false

theorem namesInfo : (Try.prog.info? 22).map (fun i => (i.zero, i.size, i.bytes)) = some (some (.slice none 0 0), 1, 24) := by kernel_rfl
theorem treeInfo : (Try.prog.info? 31).map (fun i => (i.zero, i.size, i.bytes)) = some (some (.agg #[.int .i64 0, .slice none 0 0, .slice none 0 0, .slice none 0 0]), 4, 80) := by kernel_rfl

/-- Rows of bytes, one behind the other, from the block lo on and below hi. -/
def Chain (w : World) : Nat → List (List Int) → List Value → Nat → Prop
  | lo, [], us, hi => us = [] ∧ lo ≤ hi
  | lo, n :: ns, us, hi => ∃ u r m, us = u :: r ∧ Own 5 lo m w u (bs n) ∧ lo ≤ m ∧ Chain w m ns r hi
theorem Chain.le {w : World} : ∀ {lo : Nat} {ns : List (List Int)} {us : List Value} {hi : Nat}, Chain w lo ns us hi → lo ≤ hi
  | lo, [], us, hi, h => h.2
  | lo, n :: ns, us, hi, ⟨u, r, m, _, _, hm, h⟩ => Nat.le_trans hm h.le
theorem Chain.len {w : World} : ∀ {lo : Nat} {ns : List (List Int)} {us : List Value} {hi : Nat}, Chain w lo ns us hi → us.length = ns.length
  | lo, [], us, hi, h => by rw [h.1]; rfl
  | lo, n :: ns, us, hi, ⟨u, r, m, e, _, _, h⟩ => by rw [e]; simp [h.len]
theorem Chain.snoc {w : World} {n : List Int} {u : Value} {hi' : Nat} : ∀ {lo : Nat} {ns : List (List Int)} {us : List Value} {hi : Nat}, Chain w lo ns us hi → Own 5 hi hi' w u (bs n) → hi ≤ hi' → Chain w lo (ns ++ [n]) (us ++ [u]) hi'
  | lo, [], us, hi, h, ho, hh => by
    obtain ⟨rfl, hl⟩ := h
    exact ⟨u, [], hi', rfl, ho.wide hl (Nat.le_refl _) ho.2.1, by omega, rfl, Nat.le_refl _⟩
  | lo, m :: ns, us, hi, ⟨v, r, k, e, o, hk, h⟩, ho, hh => by
    subst e
    exact ⟨v, r ++ [u], k, rfl, o, hk, h.snoc ho hh⟩
theorem Chain.out {w w' : World} {lo' hi' : Nat} (ho : Outside lo' hi' w w') : ∀ {lo : Nat} {ns : List (List Int)} {us : List Value} {hi : Nat}, Chain w lo ns us hi → hi' ≤ lo → Chain w' lo ns us hi
  | lo, [], us, hi, h, _ => h
  | lo, n :: ns, us, hi, ⟨u, r, m, e, o, hm, h⟩, hd => ⟨u, r, m, e, o.outside ho (.inr hd), hm, h.out ho (by omega)⟩
theorem Chain.lower {w : World} {lo lo2 : Nat} : ∀ {ns : List (List Int)} {us : List Value} {hi : Nat}, Chain w lo ns us hi → lo2 ≤ lo → Chain w lo2 ns us hi
  | [], us, hi, h, hl => ⟨h.1, by have := h.2; omega⟩
  | n :: ns, us, hi, ⟨u, r, m, e, o, hm, h⟩, hl => ⟨u, r, m, e, o.wide hl (Nat.le_refl _) o.2.1, by omega, h⟩
theorem Chain.step {w w' : World} {lo : Nat} {ns : List (List Int)} {us : List Value} {hi : Nat} (h : Chain w lo ns us hi) (hb : Below w.heap.size w w') : Chain w' lo ns us hi :=
  h.out (Outside.of_below hb 0 0) (Nat.zero_le _)
theorem Chain.at_ {w : World} : ∀ {lo : Nat} {ns : List (List Int)} {us : List Value} {hi : Nat}, Chain w lo ns us hi → ∀ i u, us[i]? = some u → Rd w u (bs (ns.getD i []))
  | lo, [], us, hi, h, i, u, hu => by rw [h.1] at hu; simp at hu
  | lo, n :: ns, us, hi, ⟨v, r, m, e, o, _, h⟩, i, u, hu => by
    subst e
    cases i with
    | zero =>
      simp at hu
      subst hu
      exact o.rd
    | succ i => simpa using h.at_ i u (by simpa using hu)
/-- A slice of slices of bytes, all in blocks of its own. -/
def OwnN (lo hi : Nat) (w : World) (v : Value) (ns : List (List Int)) : Prop := ∃ us m, Own 22 lo m w v us ∧ lo ≤ m ∧ Chain w m ns us hi
theorem OwnN.rd {lo hi : Nat} {w : World} {v : Value} {ns : List (List Int)} (h : OwnN lo hi w v ns) : RdN w v ns := by
  obtain ⟨us, m, h1, _, h2⟩ := h
  exact ⟨us, h1.rd, h2.len, h2.at_⟩
theorem OwnN.out {lo hi lo' hi' : Nat} {w w' : World} {v : Value} {ns : List (List Int)} (h : OwnN lo hi w v ns) (ho : Outside lo' hi' w w') (hd : hi' ≤ lo) : OwnN lo hi w' v ns := by
  obtain ⟨us, m, h1, hm, h2⟩ := h
  exact ⟨us, m, h1.outside ho (.inr hd), hm, h2.out ho (by omega)⟩
theorem OwnN.le {lo hi : Nat} {w : World} {v : Value} {ns : List (List Int)} (h : OwnN lo hi w v ns) : lo ≤ hi := by
  obtain ⟨us, m, h1, hm, h2⟩ := h
  exact Nat.le_trans hm h2.le

theorem Own.whole {e : TypeId} {lo b n c : Nat} {w : World} {xs : List Value} (h : w.ownsRow lo e 1 (.slice (some ⟨b, 0, none⟩) n c) n xs) (hn : n = xs.length) (hb : b < w.heap.size) : Own e lo (b + 1) w (.slice (some ⟨b, 0, none⟩) n c) xs := by
  subst hn
  refine ⟨h, by omega, fun g hg => ?_⟩
  have h2 : b = g := Option.some.inj hg
  omega
theorem outside_set (w : World) (g j : Nat) (u : Value) : Outside g (g + 1) w (w.setCell ⟨g, j, none⟩ u) :=
  ⟨rfl, rfl, rfl, by simp, fun k hk ho => Below.heap_setCell w ⟨g, j, none⟩ u k (by dsimp only; omega)⟩
theorem slots_set (us : List Value) (n : Nat) (u : Value) (h : us.length < n) :
    (us ++ List.replicate (n - us.length) (Value.slice none 0 0)).set us.length u = (us ++ [u]) ++ List.replicate (n - (us ++ [u]).length) (Value.slice none 0 0) := by
  have e : n - us.length = (n - (us ++ [u]).length) + 1 := by simp; omega
  rw [e, List.replicate_succ, List.set_append, if_neg (by omega), Nat.sub_self, List.set_cons_zero]
  simp

set_option maxRecDepth 20000 in
set_option maxHeartbeats 1600000 in
theorem toNames (ns : List (List Int)) (v : Value) (w : World) (hv : RdN w v ns) (hl : ns.length ≤ 1048576) (hs : ∀ n ∈ ns, n.length ≤ 1048576) :
    Calls Try.prog 43 #[v] w fun e w' => ∃ v', e = .returned v' ∧ OwnN w.heap.size w'.heap.size w' v' ns ∧ Below w.heap.size w w' := by
  obtain ⟨i0, hi0, hz0, hz1, hz2⟩ := info_parts namesInfo
  obtain ⟨vs, hv, hvl, hvs⟩ := hv
  obtain ⟨A, c, rfl, hc1, hc2, hrd⟩ := hv
  rw [hvl] at hc1 hrd ⊢
  unfold maxLen at hc2
  obtain ⟨n, hn⟩ : ∃ n, ns.length = n := ⟨_, rfl⟩
  have HN := hide hn
  have HVL := hide hvl
  have HRD := hide hrd
  have HVS := hide hvs
  have HS := hide hs
  rw [hn] at hc1 hl ⊢
  clear hn hvl hrd hvs hs
  go_enter Try.func43, Try.ntmps43
  go_wp2_with (at_make; refine wpList_make_full _ rfl _ _ 23 rfl w.heap.size 22 i0 _ 1 Try.underlying23 hi0 hz0 hz1 .i64 .i64 _ _ n rfl rfl rfl rfl (by rw [hz2]; omega) (by simp only [maxLen]; omega) (Nat.le_refl _) ?_; intro w1 own1 gr1)
  have own2 : w1.ownsRow w.heap.size 22 1 (.slice (some ⟨w.heap.size, 0, none⟩) n n) n (([] : List Value) ++ List.replicate (n - ([] : List Value).length) (Value.slice none 0 0)) := by
    have e : (madeCells (Value.slice none 0 0).cells (n * 1)).toList = ([] : List Value) ++ List.replicate (n - ([] : List Value).length) (Value.slice none 0 0) := by
      rw [Nat.mul_one]; exact toList_madeCells_one _ _
    rw [← e]
    exact own1
  have hb1 : Below w.heap.size w w1 := (Below.refl _ _).grown gr1 (Nat.le_refl _) (fun _ h => by cases h)
  have hlt1 : w.heap.size + 1 ≤ w1.heap.size := (own2.lt w.heap.size rfl).2
  clear own1 gr1 hi0 hz0 hz1 hz2
  go_loopw [4] (fun i wr => ∃ (k : Nat) (us : List Value), k ≤ n ∧ i = .int .i64 k ∧ us.length = k ∧ wr.ownsRow w.heap.size 22 1 (.slice (some ⟨w.heap.size, 0, none⟩) n n) n (us ++ List.replicate (n - us.length) (Value.slice none 0 0)) ∧ Chain wr (w.heap.size + 1) (ns.take k) us wr.heap.size ∧ Below w.heap.size w wr ∧ w.heap.size + 1 ≤ wr.heap.size)
    (fun i _ => n - (intOf i).toNat)
  case atStart => exact ⟨0, [], Nat.zero_le _, rfl, rfl, own2, ⟨rfl, hlt1⟩, hb1, hlt1⟩
  case round =>
    clear own2 hb1 hlt1
    obtain ⟨k, us, hk, rfl, hul, hown, hch, hbel, hsz⟩ := hrel
    by_cases hlt : k < n
    · have hkl : k < ns.length := by rw [HN.out]; exact hlt
      obtain ⟨b, off, rfl, hblt, hcell⟩ := HRD.out (by rw [HN.out]; omega)
      have hvk : k < vs.length := by rw [HVL.out]; exact hkl
      obtain ⟨u, hu⟩ : ∃ u, vs[k]? = some u := ⟨_, List.getElem?_eq_getElem hvk⟩
      have hq := (hbel.cell (p := ⟨b, off + k, none⟩) hblt).trans (hcell k u hu)
      have hmem : ns.getD k [] ∈ ns := by simp [List.getD, List.getElem?_eq_getElem hkl]
      have hcall := toBytes (ns.getD k []) u wr ((HVS.out k u hu).below hbel) (by have := HS.out _ hmem; omega)
      have htake : ns.take (k + 1) = ns.take k ++ [ns.getD k []] := by
        rw [List.take_succ_eq_append_getElem hkl]
        simp [List.getD, hkl]
      have HTK := hide htake
      generalize ns.getD k [] = m at *
      have HO := hide hown
      have HCH := hide hch
      have HB := hide hbel
      have HUL := hide hul
      clear hown hch hbel hcell hmem htake hu hvk hkl hul
      go_wp2_with fail
      refine hcall.mono ?_
      rintro e w2 ⟨v2, rfl, o2, b2⟩
      obtain ⟨A2, c2, hv2, _, _⟩ := own_slice o2.1
      subst hv2
      have own2 := ((Own.whole HO.out (by rw [List.length_append, List.length_replicate, HUL.out]; omega) (by omega)).step b2).1
      replace own2 := own_len own2 (show _ = n by rw [List.length_append, List.length_replicate, HUL.out]; omega)
      have hout := own2.cellAt k (by omega)
      have hfz := own2.frozenAt k
      obtain ⟨hst, hgr⟩ := own2.stored k (.slice A2 (bs m).length c2)
      have hset := slots_set us n (.slice A2 (bs m).length c2) (by rw [HUL.out]; exact hlt)
      rw [HUL.out] at hset
      rw [HUL.out] at hst hout
      rw [hset] at hst
      have hget : (us ++ List.replicate (n - k) (Value.slice none 0 0))[k]? = some (.slice none 0 0) := by
        rw [List.getElem?_append_right (by rw [HUL.out]; omega), List.getElem?_replicate, if_pos (by rw [HUL.out]; omega)]
      rw [hget] at hout
      have hch2 := ((HCH.out.step b2).snoc o2 b2.size).out (outside_set w2 w.heap.size k (.slice A2 (bs m).length c2)) (Nat.le_refl _)
      rw [← HTK.out] at hch2
      have b3 : Below w.heap.size w (w2.setCell ⟨w.heap.size, k, none⟩ (.slice A2 (bs m).length c2)) := (HB.out.trans (b2.mono HB.out.size)).setCell (Nat.le_refl _) _
      have z3 : (w2.setCell ⟨w.heap.size, k, none⟩ (.slice A2 (bs m).length c2)).heap.size = w2.heap.size := by simp
      have z2 := b2.size
      have HST := hide hst
      have HC2 := hide hch2
      have HB3 := hide b3
      have HZ3 := hide z3
      clear hst hgr hset hget own2 hch2 b3 z3
      go_wp2_with fail
      go_roundw
      case rel => exact ⟨k + 1, us ++ [_], by omega, by go_num, by rw [List.length_append, HUL.out]; rfl, HST.out, by rw [HZ3.out]; exact HC2.out, HB3.out, by rw [HZ3.out]; omega⟩
      case measure => simp [intOf]; omega
    · obtain rfl : k = n := by omega
      have e1 : us ++ List.replicate (k - us.length) (Value.slice none 0 0) = us := by rw [hul, Nat.sub_self, List.replicate_zero, List.append_nil]
      have e2 : ns.take k = ns := List.take_of_length_le (by rw [HN.out]; omega)
      rw [e1] at hown
      rw [e2] at hch
      have hfin : OwnN w.heap.size wr.heap.size wr (.slice (some ⟨w.heap.size, 0, none⟩) k k) ns := ⟨us, w.heap.size + 1, Own.whole hown (by omega) (by omega), by omega, hch⟩
      have HF := hide hfin
      have HB := hide hbel
      clear hfin hown hch hbel e1 e2
      go_wp2
      go_ret
      exact ⟨_, rfl, HF.out, HB.out⟩

end Go.Proofs.Ytchmppikpeeghaa
