/-
  The laws' copies of trees: the walks.
-/
import Derived.Test.YtchmppikpeeghaaTreeTo2
namespace Go.Proofs.Ytchmppikpeeghaa
open Go.RowKit
set_option linter.unusedVariables false

def ToAt (t : T) : Prop := ∀ (q : Q) (w : World), t.bulk ≤ 1048576 → TIn w t q →
  Calls Try.prog 16 #[q.val] w fun e w' => ∃ q' : Q, e = .returned q'.val ∧ TOwn w' t w.heap.size q' w'.heap.size ∧ Below w.heap.size w w'

theorem T.bulks_mem {ts : List T} {t : T} (h : t ∈ ts) : t.bulk ≤ T.bulks ts := by
  induction ts with
  | nil => cases h
  | cons t0 ts ih =>
    rw [T.bulks]
    rcases List.mem_cons.1 h with rfl | h
    · omega
    · have := ih h; omega
theorem sumLen_mem {ns : List (List Int)} {n : List Int} (h : n ∈ ns) : n.length ≤ sumLen ns := by
  induction ns with
  | nil => cases h
  | cons n0 ns ih =>
    rw [sumLen]
    rcases List.mem_cons.1 h with rfl | h
    · omega
    · have := ih h; omega

/-- The four stores of a tree's cells. -/
theorem own4_store {w : World} {base g n cap : Nat} {xs : List Value} (h : w.ownsRow base 31 4 (.slice (some ⟨g, 0, none⟩) n cap) n xs) (o : Nat) (a b c d : Value) :
    (w.setCells g o [a, b, c, d]).ownsRow base 31 4 (.slice (some ⟨g, 0, none⟩) n cap) n ((((xs.set o a).set (o + 1) b).set (o + 2) c).set (o + 3) d) ∧ Outside g (g + 1) w (w.setCells g o [a, b, c, d]) := by
  refine ⟨?_, ?_⟩
  · exact ((((h.stored o a).1.stored (o + 1) b).1.stored (o + 2) c).1.stored (o + 3) d).1
  · exact ((outside_set w g o a).trans (outside_set _ g (o + 1) b)).trans ((outside_set _ g (o + 2) c).trans (outside_set _ g (o + 3) d))

theorem own4_there {w : World} {base g n cap : Nat} {xs : List Value} (h : w.ownsRow base 31 4 (.slice (some ⟨g, 0, none⟩) n cap) n xs) (hx : xs.length = 4 * n) (k : Nat) (hk : k < n) : w.there g (4 * k) 4 := fun j hj => by
  refine ⟨?_, h.frozenAt _⟩
  rw [h.cellAt (4 * k + j) (by omega), List.getElem?_eq_getElem (by omega)]
  rfl

theorem row_slice {w : World} {lo size : Nat} {e : TypeId} {n : Nat} {v : Value} {xs : List Value} (h : w.ownsRow lo e size v n xs) : ∃ A c, v = .slice A n c ∧ n ≤ c ∧ c ≤ maxLen := by
  rcases h.2 with ⟨rfl, h0⟩ | ⟨g, cap, cur, hv, hb, hg, hnc, hcm, _⟩
  · exact ⟨none, 0, by rw [h0], by omega, Nat.zero_le _⟩
  · exact ⟨_, cap, hv, hnc, hcm⟩
theorem TOwn.form {w : World} {t : T} {lo hi : Nat} {q : Q} (h : TOwn w t lo q hi) : (∃ A n c, q.d = .slice A n c) ∧ (∃ A n c, q.n = .slice A n c) ∧ (∃ A n c, q.c = .slice A n c) := by
  cases t with
  | node k d ns ks =>
    rw [TOwn] at h
    obtain ⟨_, m1, m2, m3, qs, _, _, h4, ⟨us, m, h5, _, _⟩, h6, _⟩ := h
    obtain ⟨A, c, e, _, _⟩ := row_slice h4.1
    obtain ⟨A', c', e', _, _⟩ := row_slice h5.1
    obtain ⟨A'', c'', e'', _, _⟩ := row_slice h6.1
    exact ⟨⟨_, _, _, e⟩, ⟨_, _, _, e'⟩, ⟨_, _, _, e''⟩⟩
theorem TOwn.one {w : World} {t : T} {lo hi : Nat} {q : Q} (h : TOwn w t lo q hi) : (#[.int .i64 q.k, q.d, q.n, q.c] : Array Value).all (·.oneCell') = true := by
  obtain ⟨⟨A, n, c, e⟩, ⟨A', n', c', e'⟩, ⟨A'', n'', c'', e''⟩⟩ := h.form
  rw [e, e', e'']
  simp [Value.oneCell']

set_option maxRecDepth 20000 in
set_option maxHeartbeats 1600000 in
theorem toKids (ks : List T) (hks : ∀ t ∈ ks, ToAt t) (v : Value) (qs : List Q) (w : World) (hl : ks.length + T.bulks ks ≤ 1048576) (hv : Rd4 w v qs) (hq : TIns w ks qs) :
    Calls Try.prog 52 #[v] w fun e w' => ∃ (v' : Value) (rs : List Q) (m : Nat), e = .returned v' ∧ Own4 w.heap.size m w' v' rs ∧ w.heap.size ≤ m ∧ TChain w' ks m rs w'.heap.size ∧ Below w.heap.size w w' := by
  obtain ⟨i0, hi0, hz0, hz1, hz2⟩ := info_parts treeInfo
  have hvl := hq.len
  obtain ⟨A, c, rfl, hc1, hc2, hrd⟩ := hv
  rw [hvl] at hc1 hrd ⊢
  unfold maxLen at hc2
  obtain ⟨n, hn⟩ : ∃ n, ks.length = n := ⟨_, rfl⟩
  have hn20 : n ≤ 1048576 := by omega
  have hbk : ∀ t ∈ ks, t.bulk ≤ 1048576 := fun t ht => by have := T.bulks_mem ht; omega
  have HN := hide hn
  have HRD := hide hrd
  have HQ := hide hq
  have HKS := hide hks
  have HBK := hide hbk
  rw [hn] at hc1 ⊢
  clear hn hvl hrd hq hks hbk hl
  go_enter Try.func52, Try.ntmps52
  go_wp2_with (at_make; refine wpList_make_full _ rfl _ _ 29 rfl w.heap.size 31 i0 _ 4 Try.underlying29 hi0 hz0 hz1 .i64 .i64 _ _ n rfl rfl rfl rfl (by rw [hz2]; omega) (by simp only [maxLen]; omega) (Nat.le_refl _) ?_; intro w1 own1 gr1)
  have own2 : w1.ownsRow w.heap.size 31 4 (.slice (some ⟨w.heap.size, 0, none⟩) n n) n (qcells (([] : List Q) ++ List.replicate (n - ([] : List Q).length) q0)) := by
    have e := made_q0 n
    rw [List.nil_append, List.length_nil, Nat.sub_zero, ← e]
    exact own1
  have hb1 : Below w.heap.size w w1 := (Below.refl _ _).grown gr1 (Nat.le_refl _) (fun _ h => by cases h)
  have hlt1 : w.heap.size + 1 ≤ w1.heap.size := (own2.lt w.heap.size rfl).2
  clear own1 gr1 hi0 hz0 hz1 hz2
  go_loopw [4] (fun i wr => ∃ (k : Nat) (us : List Q), k ≤ n ∧ i = .int .i64 k ∧ us.length = k ∧ wr.ownsRow w.heap.size 31 4 (.slice (some ⟨w.heap.size, 0, none⟩) n n) n (qcells (us ++ List.replicate (n - us.length) q0)) ∧ TChain wr (ks.take k) (w.heap.size + 1) us wr.heap.size ∧ Below w.heap.size w wr ∧ w.heap.size + 1 ≤ wr.heap.size)
    (fun i _ => n - (intOf i).toNat)
  case atStart => exact ⟨0, [], Nat.zero_le _, rfl, rfl, own2, by rw [List.take_zero, TChain]; exact ⟨rfl, hlt1⟩, hb1, hlt1⟩
  case round =>
    clear own2 hb1 hlt1
    obtain ⟨k, us, hk, rfl, hul, hown, hch, hbel, hsz⟩ := hrel
    by_cases hlt : k < n
    · have hkl : k < ks.length := by rw [HN.out]; exact hlt
      obtain ⟨b, off, rfl, hblt, hcell⟩ := HRD.out (by rw [HN.out]; omega)
      obtain ⟨q, hqk, hqt⟩ := HQ.out.at_ k ks[k] (List.getElem?_eq_getElem hkl)
      obtain ⟨e0, e1, e2, e3⟩ := hcell k q hqk
      have hld : wr.cell? ⟨b, off + k * 4, none⟩ = some (.int .i64 q.k) ∧ wr.cell? ⟨b, off + k * 4 + 1, none⟩ = some q.d ∧ wr.cell? ⟨b, off + k * 4 + 2, none⟩ = some q.n ∧ wr.cell? ⟨b, off + k * 4 + 3, none⟩ = some q.c := by
        rw [Nat.mul_comm k 4]
        exact ⟨(hbel.cell (p := ⟨b, off + 4 * k, none⟩) hblt).trans e0, (hbel.cell (p := ⟨b, off + (4 * k + 1), none⟩) hblt).trans e1, (hbel.cell (p := ⟨b, off + (4 * k + 2), none⟩) hblt).trans e2, (hbel.cell (p := ⟨b, off + (4 * k + 3), none⟩) hblt).trans e3⟩
      have hcall := HKS.out ks[k] (List.getElem_mem hkl) q wr (HBK.out _ (List.getElem_mem hkl)) (hqt.below hbel)
      have htake : ks.take (k + 1) = ks.take k ++ [ks[k]] := List.take_succ_eq_append_getElem hkl
      have HTK := hide htake
      generalize ks[k] = t at *
      have HO := hide hown
      have HCH := hide hch
      have HB := hide hbel
      have HUL := hide hul
      have HLD := hide hld
      have k1 : (k : Int) < (n : Int) := by omega
      clear hown hch hbel hcell htake hkl hul hqk hqt e0 e1 e2 e3 hld
      go_wp2_with (refine wpList_load4 rfl _ _ rfl b _ rfl q _ Try.underlying26 rfl (by kernel_rfl) HLD.out ?_)
      refine hcall.mono ?_
      rintro e w2 ⟨q2, rfl, o2, b2⟩
      have z2 := b2.size
      have hxs : (qcells (us ++ List.replicate (n - us.length) q0)).length = 4 * n := by
        rw [qcells_len, List.length_append, List.length_replicate, HUL.out]; omega
      have own2 : w2.ownsRow w.heap.size 31 4 (.slice (some ⟨w.heap.size, 0, none⟩) n n) n (qcells (us ++ List.replicate (n - us.length) q0)) := by
        refine ⟨HO.out.1, ?_⟩
        rcases HO.out.2 with hn | ⟨g, cap, cur, hv, hbg, hg, rest⟩
        · exact .inl hn
        · have hlt := (HO.out.lt w.heap.size rfl).2
          injection hv with hv1 _ hv3
          injection hv1 with hv2
          injection hv2 with hv4
          subst hv4
          exact .inr ⟨_, cap, cur, by rw [hv3], hbg, (b2.block _ hlt).trans hg, rest⟩
      have hth := own4_there own2 hxs k hlt
      obtain ⟨hst, hos⟩ := own4_store own2 (4 * k) (.int .i64 q2.k) q2.d q2.n q2.c
      have hset := qslots_set us n q2 (by rw [HUL.out]; exact hlt)
      rw [HUL.out] at hset hst
      rw [hset] at hst
      have hch2 := ((HCH.out.step b2).snoc o2).out hos (Nat.le_refl _)
      rw [← HTK.out] at hch2
      have b3 : Below w.heap.size w (w2.setCells w.heap.size (4 * k) [.int .i64 q2.k, q2.d, q2.n, q2.c]) := hos.below (HB.out.trans (b2.mono HB.out.size)) (Nat.le_refl _) (by omega)
      have z3 : (w2.setCells w.heap.size (4 * k) [.int .i64 q2.k, q2.d, q2.n, q2.c]).heap.size = w2.heap.size := by simp [World.setCells]
      have hone := o2.one
      rw [Nat.mul_comm 4 k] at hth hst hch2 b3 z3
      have HTH := hide hth
      have HONE := hide hone
      have HST := hide hst
      have HC2 := hide hch2
      have HB3 := hide b3
      have HZ3 := hide z3
      clear hst hset own2 hch2 b3 z3 hos hth hone hxs o2
      go_wp2_with ((with_reducible refine at_none ?_); refine wpList_store_mid rfl _ _ _ rfl w.heap.size (k * 4) #[.int .i64 q2.k, q2.d, q2.n, q2.c] rfl rfl HTH.out (by kernel_rfl) HONE.out ?_)
      go_roundw
      case rel => exact ⟨k + 1, us ++ [q2], by omega, by go_num, by rw [List.length_append, HUL.out]; rfl, HST.out, by have h := HC2.out; rw [← HZ3.out] at h; exact h, HB3.out, by have h := HZ3.out; omega⟩
      case measure => simp [intOf]; omega
    · obtain rfl : k = n := by omega
      have e1 : us ++ List.replicate (k - us.length) q0 = us := by rw [hul, Nat.sub_self, List.replicate_zero, List.append_nil]
      have e2 : ks.take k = ks := List.take_of_length_le (by rw [HN.out]; omega)
      rw [e1] at hown
      rw [e2] at hch
      have hfin : Own4 w.heap.size (w.heap.size + 1) wr (.slice (some ⟨w.heap.size, 0, none⟩) k k) us := by
        rw [← hul] at hown ⊢
        refine ⟨hown, by omega, fun g hg => ?_⟩
        have h2 : w.heap.size = g := Option.some.inj hg
        omega
      have HF := hide hfin
      have HB := hide hbel
      have HC := hide hch
      clear hfin hown hch hbel e1 e2
      go_wp2
      go_ret
      exact ⟨_, us, w.heap.size + 1, rfl, HF.out, by omega, HC.out, HB.out⟩

/-- A block of a tree's four cells. -/
def C4 (w : World) (g : Nat) (t : TypeId) (a b c d : Value) : Prop := w.heap[g]? = some (.cells #[a, b, c, d] t (0, 0))
section
variable {w w' : World} {g : Nat} {t : TypeId} {a b c d : Value}
theorem C4.lt (h : C4 w g t a b c d) : g < w.heap.size := (Array.getElem?_eq_some_iff.1 h).1
theorem C4.c0 (h : C4 w g t a b c d) : w.cell? ⟨g, 0, none⟩ = some a := by rw [cell_of_row w g 0 _ _ (0, 0) h]; rfl
theorem C4.c1 (h : C4 w g t a b c d) : w.cell? ⟨g, 1, none⟩ = some b := by rw [cell_of_row w g 1 _ _ (0, 0) h]; rfl
theorem C4.c2 (h : C4 w g t a b c d) : w.cell? ⟨g, 2, none⟩ = some c := by rw [cell_of_row w g 2 _ _ (0, 0) h]; rfl
theorem C4.c3 (h : C4 w g t a b c d) : w.cell? ⟨g, 3, none⟩ = some d := by rw [cell_of_row w g 3 _ _ (0, 0) h]; rfl
theorem C4.fz (h : C4 w g t a b c d) (j : Nat) : w.frozen? ⟨g, j, none⟩ = false := frozen_of_row w g j _ _ h
theorem C4.step (h : C4 w g t a b c d) (hb : Below w.heap.size w w') : C4 w' g t a b c d := (hb.block g h.lt).trans h
theorem C4.set1 (h : C4 w g t a b c d) (x : Value) : C4 (w.setCell ⟨g, 1, none⟩ x) g t a x c d := heap_setCell_same w g 1 _ _ _ h
theorem C4.set2 (h : C4 w g t a b c d) (x : Value) : C4 (w.setCell ⟨g, 2, none⟩ x) g t a b x d := heap_setCell_same w g 2 _ _ _ h
theorem C4.set3 (h : C4 w g t a b c d) (x : Value) : C4 (w.setCell ⟨g, 3, none⟩ x) g t a b c x := heap_setCell_same w g 3 _ _ _ h
theorem C4.set0 (h : C4 w g t a b c d) (x : Value) : C4 (w.setCell ⟨g, 0, none⟩ x) g t x b c d := heap_setCell_same w g 0 _ _ _ h
theorem C4.all (h : C4 w g t a b c d) (x0 x1 x2 x3 : Value) : C4 (w.setCells g 0 [x0, x1, x2, x3]) g t x0 x1 x2 x3 := (((h.set0 x0).set1 x1).set2 x2).set3 x3
theorem outside_sets (w : World) (g : Nat) (x0 x1 x2 x3 : Value) : Outside g (g + 1) w (w.setCells g 0 [x0, x1, x2, x3]) := ((outside_set w g 0 x0).trans (outside_set _ g 1 x1)).trans ((outside_set _ g 2 x2).trans (outside_set _ g 3 x3))
theorem C4.there (h : C4 w g t a b c d) : w.there g 0 4 := fun j hj => by
  refine ⟨?_, h.fz _⟩
  rw [Nat.zero_add]
  rcases (by omega : j = 0 ∨ j = 1 ∨ j = 2 ∨ j = 3) with rfl | rfl | rfl | rfl
  · rw [h.c0]; rfl
  · rw [h.c1]; rfl
  · rw [h.c2]; rfl
  · rw [h.c3]; rfl
theorem C4.out {lo hi : Nat} (h : C4 w g t a b c d) (ho : Outside lo hi w w') (hd : g < lo ∨ hi ≤ g) : C4 w' g t a b c d := (ho.block g h.lt hd).trans h
end

set_option maxRecDepth 20000 in
set_option maxHeartbeats 1600000 in
theorem toTree : ∀ t : T, ToAt t := by
  intro t
  induction t using T.ind with
  | h k d ns ks ih =>
    intro q w hb hq
    rw [TIn] at hq
    obtain ⟨rfl, hd, hn, qs, hk, hks⟩ := hq
    rw [T.bulk] at hb
    have c1 := fun W (hb2 : Below w.heap.size w W) => toBytes d q.d W (hd.below hb2) (by omega)
    have c2 := fun W (hb2 : Below w.heap.size w W) => toNames ns q.n W (hn.below hb2) (by omega) (fun n hn => by have := sumLen_mem hn; omega)
    have c3 := fun W (hb2 : Below w.heap.size w W) => toKids ks ih q.c qs W (by omega) (hk.below hb2) (TIns.mk hks.len fun i t q h6 h7 => by
      obtain ⟨q', h8, h9⟩ := hks.at_ i t h6
      obtain rfl : q' = q := Option.some.inj (h8.symm.trans h7)
      exact h9.below hb2)
    have C1 := hide c1
    have C2 := hide c2
    have C3 := hide c3
    clear c1 c2 c3 ih hd hn hk hks
    go_enter Try.func16, Try.ntmps16
    go_wp2_with fail
    obtain ⟨wa, hwa⟩ : ∃ wa, ((w.alloc (.cells #[.int .i64 q.k, q.d, q.n, q.c] 26)).alloc (.cells #[.int .i64 0, .slice none 0 0, .slice none 0 0, .slice none 0 0] 31)).alloc (.cells #[.int .i64 q.k, .slice none 0 0, .slice none 0 0, .slice none 0 0] 31) = wa := ⟨_, rfl⟩
    rw [hwa]
    have za : wa.heap.size = w.heap.size + 3 := by rw [← hwa]; simp
    have ba : Below w.heap.size w wa := by rw [← hwa]; exact (((Below.refl _ _).alloc (Nat.le_refl _) _).alloc (by simp) _).alloc (by simp; omega) _
    have aA : C4 wa w.heap.size 26 (.int .i64 q.k) q.d q.n q.c := by
      rw [← hwa]
      have h : C4 (w.alloc (.cells #[.int .i64 q.k, q.d, q.n, q.c] 26)) w.heap.size 26 (.int .i64 q.k) q.d q.n q.c := heap_alloc_new w _
      exact (h.step ((Below.refl _ _).alloc (Nat.le_refl _) _)).step ((Below.refl _ _).alloc (Nat.le_refl _) _)
    have aR : C4 wa (w.heap.size + 1) 31 (.int .i64 0) (.slice none 0 0) (.slice none 0 0) (.slice none 0 0) := by
      rw [← hwa]
      have h := heap_alloc_new (w.alloc (.cells #[.int .i64 q.k, q.d, q.n, q.c] 26)) (.cells #[.int .i64 0, .slice none 0 0, .slice none 0 0, .slice none 0 0] 31)
      rw [World.size_alloc] at h
      exact C4.step h ((Below.refl _ _).alloc (Nat.le_refl _) _)
    have aO : C4 wa (w.heap.size + 1 + 1) 31 (.int .i64 q.k) (.slice none 0 0) (.slice none 0 0) (.slice none 0 0) := by
      rw [← hwa]
      have h := heap_alloc_new ((w.alloc (.cells #[.int .i64 q.k, q.d, q.n, q.c] 26)).alloc (.cells #[.int .i64 0, .slice none 0 0, .slice none 0 0, .slice none 0 0] 31)) (.cells #[.int .i64 q.k, .slice none 0 0, .slice none 0 0, .slice none 0 0] 31)
      rw [World.size_alloc, World.size_alloc] at h
      exact h
    clear hwa
    refine (C1.out wa ba).mono ?_
    rintro e w1 ⟨v1, rfl, o1, b1⟩
    obtain ⟨A1, c1, rfl, _, _⟩ := own_slice o1.1
    have aA1 := aA.step b1
    have aR1 := aR.step b1
    have aO1 := aO.step b1
    have x1 := aO1.c1
    have f1 := aO1.fz 1
    have x2 := aA1.c2
    have z1 := b1.size
    go_wp2_with fail
    -- behind the first field
    obtain ⟨ws, hws⟩ : ∃ ws, w1.setCell ⟨w.heap.size + 1 + 1, 1, none⟩ (.slice A1 (bs d).length c1) = ws := ⟨_, rfl⟩
    have os := outside_set w1 (w.heap.size + 1 + 1) 1 (.slice A1 (bs d).length c1)
    have aO2 := aO1.set1 (.slice A1 (bs d).length c1)
    have zs : (w1.setCell ⟨w.heap.size + 1 + 1, 1, none⟩ (.slice A1 (bs d).length c1)).heap.size = w1.heap.size := by simp
    rw [hws] at os aO2 zs ⊢
    have aA2 := aA1.out os (by omega)
    have aR2 := aR1.out os (by omega)
    have o1s := o1.outside os (.inr (by omega))
    have bs1 : Below w.heap.size w ws := os.below (ba.trans (b1.mono (by omega))) (by omega) (by omega)
    clear hws aA aR aO aA1 aR1 aO1 x1 f1 x2 o1 b1 os
    refine (C2.out ws bs1).mono ?_
    rintro e w2 ⟨v2, rfl, o2, b2⟩
    have o2k := o2
    obtain ⟨us2, m2, o2a, _, _⟩ := o2
    obtain ⟨A2, c2, rfl, _, _⟩ := own_slice o2a.1
    have aA3 := aA2.step b2
    have aR3 := aR2.step b2
    have aO3 := aO2.step b2
    have x1 := aO3.c2
    have f1 := aO3.fz 2
    have x2 := aA3.c3
    have z2 := b2.size
    have o1t := o1s.step b2
    go_wp2_with fail
    -- behind the second
    obtain ⟨wt, hwt⟩ : ∃ wt, w2.setCell ⟨w.heap.size + 1 + 1, 2, none⟩ (.slice A2 us2.length c2) = wt := ⟨_, rfl⟩
    have os := outside_set w2 (w.heap.size + 1 + 1) 2 (.slice A2 us2.length c2)
    have aO4 := aO3.set2 (.slice A2 us2.length c2)
    have zt : (w2.setCell ⟨w.heap.size + 1 + 1, 2, none⟩ (.slice A2 us2.length c2)).heap.size = w2.heap.size := by simp
    rw [hwt] at os aO4 zt ⊢
    have aA4 := aA3.out os (by omega)
    have aR4 := aR3.out os (by omega)
    have o1u := o1t.outside os (.inr (by omega))
    have o2u := o2k.out os (by omega)
    have bs2 : Below w.heap.size w wt := os.below (bs1.trans (b2.mono (by omega))) (by omega) (by omega)
    clear hwt aA2 aR2 aO2 aA3 aR3 aO3 x1 f1 x2 o2k o2a o1t o1s b2 os
    refine (C3.out wt bs2).mono ?_
    rintro e w3 ⟨v3, rs, m3, rfl, o3, hm3, ch3, b3⟩
    obtain ⟨A3, c3, rfl, _, _⟩ := row_slice o3.1
    have aR5 := aR4.step b3
    have aO5 := aO4.step b3
    have z3 := b3.size
    have x1 := aO5.c3
    have f1 := aO5.fz 3
    have o1v := o1u.step b3
    have o2v := o2u.out (Outside.of_below b3 0 0) (Nat.zero_le _)
    obtain ⟨wu, hwu⟩ : ∃ wu, w3.setCell ⟨w.heap.size + 1 + 1, 3, none⟩ (.slice A3 rs.length c3) = wu := ⟨_, rfl⟩
    have os := outside_set w3 (w.heap.size + 1 + 1) 3 (.slice A3 rs.length c3)
    have aO6 := aO5.set3 (.slice A3 rs.length c3)
    have zu : (w3.setCell ⟨w.heap.size + 1 + 1, 3, none⟩ (.slice A3 rs.length c3)).heap.size = w3.heap.size := by simp
    rw [hwu] at os aO6 zu
    have aR6 := aR5.out os (by omega)
    have o1w := o1v.outside os (.inr (by omega))
    have o2w := o2v.out os (by omega)
    have o3w := o3.out os (.inr (by omega))
    have ch3w := ch3.out os (by omega)
    have bs3 : Below w.heap.size w wu := os.below (bs2.trans (b3.mono (by omega))) (by omega) (by omega)
    -- the result's cells
    obtain ⟨q', hq'⟩ : ∃ q' : Q, q' = ⟨q.k, .slice A1 (bs d).length c1, .slice A2 us2.length c2, .slice A3 rs.length c3⟩ := ⟨_, rfl⟩
    have hval : q'.val = .agg #[.int .i64 q.k, .slice A1 (bs d).length c1, .slice A2 us2.length c2, .slice A3 rs.length c3] := by rw [hq']
    have own : ∀ W, Outside (w.heap.size + 1) (w.heap.size + 1 + 1) wu W → TOwn W (.node q.k d ns ks) w.heap.size q' wu.heap.size ∧ Below w.heap.size w W := fun W ho => by
      refine ⟨?_, ho.below bs3 (by omega) (by omega)⟩
      rw [hq', TOwn]
      refine ⟨rfl, ws.heap.size, wt.heap.size, m3, rs, by omega, by omega, ?_, ?_, ?_, ?_⟩
      · exact (o1w.outside ho (.inr (by omega))).wide (by omega) (by omega) (by have := ho.size; omega)
      · have h := o2w.out ho (by omega)
        rw [zt]
        exact h
      · exact o3w.out ho (.inr (by omega))
      · have h := ch3w.out ho (by omega)
        rw [zu]
        exact h
    have OWN := hide own
    have hgo : wu.rangeAt (w.heap.size + 1 + 1) 0 [.int .i64 q.k, .slice A1 (bs d).length c1, .slice A2 us2.length c2, .slice A3 rs.length c3] := fun j v hv => by
      rw [Nat.zero_add]
      match j, hv with
      | 0, hv => simp at hv; subst hv; exact aO6.c0
      | 1, hv => simp at hv; subst hv; exact aO6.c1
      | 2, hv => simp at hv; subst hv; exact aO6.c2
      | 3, hv => simp at hv; subst hv; exact aO6.c3
    have HGO := hide hgo
    have HR6 := hide aR6
    clear own hgo aR6 o1u o1v o1w o2u o2v o2w o3 o3w ch3 ch3w bs1 bs2 bs3 aA4 aR4 aO4 aR5 aO5 aO6 os b3 ba
    have HW : Hid (q'.val = .agg #[.int .i64 q.k, .slice A1 (bs d).length c1, .slice A2 us2.length c2, .slice A3 rs.length c3]) := hide hval
    have hwu2 : wu = wu := rfl
    have fin : ∀ W, C4 W (w.heap.size + 1) 31 (.int .i64 q.k) (.slice A1 (bs d).length c1) (.slice A2 us2.length c2) (.slice A3 rs.length c3) → Outside (w.heap.size + 1) (w.heap.size + 1 + 1) wu W → W.heap.size = wu.heap.size →
        ∃ q'' : Q, (Ending.returned (.agg #[.int .i64 q.k, .slice A1 (bs d).length c1, .slice A2 us2.length c2, .slice A3 rs.length c3]) = .returned q''.val) ∧ TOwn W (.node q.k d ns ks) w.heap.size q'' W.heap.size ∧ Below w.heap.size w W := fun W _ ho hz => by
      obtain ⟨h1, h2⟩ := OWN.out W ho
      rw [hz]
      exact ⟨q', by rw [HW.out], h1, h2⟩
    have FIN := hide fin
    clear fin hq' hval
    go_wp2_with (first
      | ((with_reducible refine at_slot 19 ?_); refine wpList_load_mid rfl _ _ rfl (w.heap.size + 1 + 1) 0 rfl [.int .i64 q.k, .slice A1 (bs d).length c1, .slice A2 us2.length c2, .slice A3 rs.length c3] _ HGO.out Try.underlying31 rfl (by kernel_rfl) ?_)
      | ((with_reducible refine at_none ?_); refine wpList_store_mid rfl _ _ _ rfl (w.heap.size + 1) 0 #[.int .i64 q.k, .slice A1 (bs d).length c1, .slice A2 us2.length c2, .slice A3 rs.length c3] rfl rfl HR6.out.there (by kernel_rfl) (by simp [Value.oneCell']) ?_))
    exact bodyPost_ret (results_cell_row rfl _ _ (w.heap.size + 1) 31 #[.int .i64 q.k, .slice A1 (bs d).length c1, .slice A2 us2.length c2, .slice A3 rs.length c3] (0, 0) _ rfl (HR6.out.all _ _ _ _) Try.underlying31 rfl (by kernel_rfl)) rfl (FIN.out _ (HR6.out.all _ _ _ _) (outside_sets _ _ _ _ _ _) (by simp [World.setCells]))

end Go.Proofs.Ytchmppikpeeghaa
