/-
  Marks over an owned tree: they are written inside its own blocks alone.
-/
import Derived.Test.YtchmppikpeeghaaMark
namespace Go.Proofs.Ytchmppikpeeghaa
open Go.RowKit
set_option linter.unusedVariables false

theorem boxed1 (w : World) (q : Q) (t : TypeId) : ∃ wa, w.alloc (.cells #[.int .i64 q.k, q.d, q.n, q.c] t) = wa ∧ C4 wa w.heap.size t (.int .i64 q.k) q.d q.n q.c ∧ Below w.heap.size w wa ∧ wa.heap.size = w.heap.size + 1 :=
  ⟨_, rfl, heap_alloc_new w _, (Below.refl _ _).alloc (Nat.le_refl _) _, by simp⟩
mutual
/-- How many marks a tree takes. -/
def T.marks : T → Nat
  | .node _ d ns ks => d.length + sumLen ns + T.markss ks
def T.markss : List T → Nat
  | [] => 0
  | t :: ts => 1 + t.marks + T.markss ts
end
theorem T.markss_next {ks : List T} {j : Nat} (h : j < ks.length) : T.markss (ks.take (j + 1)) = T.markss (ks.take j) + (1 + (ks[j]).marks) := by
  induction ks generalizing j with
  | nil => simp at h
  | cons t r ih =>
    cases j with
    | zero => simp [T.markss]
    | succ j =>
      have := ih (j := j) (by simpa using h)
      simp only [List.take_succ_cons, T.markss, List.getElem_cons_succ] at *
      omega
theorem T.markss_take (ks : List T) (j : Nat) : T.markss (ks.take j) ≤ T.markss ks := by
  induction ks generalizing j with
  | nil => simp [T.markss]
  | cons t r ih =>
    cases j with
    | zero => simp [T.markss]
    | succ j =>
      have := ih j
      simp only [List.take_succ_cons, T.markss]
      omega
theorem T.markss_bulk (ks : List T) (h : ∀ t ∈ ks, t.marks ≤ t.bulk) : T.markss ks ≤ ks.length + T.bulks ks := by
  induction ks with
  | nil => simp [T.markss]
  | cons t r ih =>
    rw [T.markss, List.length_cons, T.bulks]
    have h1 := h t (List.mem_cons_self ..)
    have h2 := ih fun t ht => h t (List.mem_cons_of_mem _ ht)
    omega
theorem T.marks_bulk : ∀ t : T, t.marks ≤ t.bulk := by
  intro t
  induction t using T.ind with
  | h k d ns ks ih =>
    have := T.markss_bulk ks ih
    rw [T.marks, T.bulk]
    omega

/-- The same but for the kinds. -/
def Like (qs qs' : List Q) : Prop := qs'.length = qs.length ∧ ∀ (i : Nat) (q : Q), qs[i]? = some q → ∃ x, qs'[i]? = some ⟨x, q.d, q.n, q.c⟩
theorem qcells_set : ∀ (qs : List Q) (j : Nat) (q : Q) (x : Int), qs[j]? = some q → (qcells qs).set (4 * j) (.int .i64 x) = qcells (qs.set j ⟨x, q.d, q.n, q.c⟩)
  | [], j, q, x, h => by simp at h
  | q0 :: qs, 0, q, x, h => by
    simp at h
    subst h
    simp [qcells, Q.cells]
  | q0 :: qs, j + 1, q, x, h => by
    have h2 := qcells_set qs j q x (by simpa using h)
    rw [List.set_cons_succ, qcells, qcells, ← h2]
    have e : 4 * (j + 1) = 4 * j + 1 + 1 + 1 + 1 := by omega
    rw [e]
    simp [Q.cells]
theorem Like.set {qs qs' : List Q} (h : Like qs qs') {j : Nat} {q : Q} (hq : qs[j]? = some q) (x : Int) : Like qs (qs'.set j ⟨x, q.d, q.n, q.c⟩) := by
  refine ⟨by rw [List.length_set]; exact h.1, fun i q2 hq2 => ?_⟩
  by_cases hi : i = j
  · subst hi
    obtain rfl : q = q2 := Option.some.inj (hq.symm.trans hq2)
    exact ⟨x, by rw [List.getElem?_set_self (by have := (List.getElem?_eq_some_iff.1 hq2).1; have := h.1; omega)]⟩
  · obtain ⟨y, hy⟩ := h.2 i q2 hq2
    exact ⟨y, by rw [List.getElem?_set_ne (fun e => hi e.symm)]; exact hy⟩

theorem own_out {w w' : World} {lo lo' hi' size n c g : Nat} {e : TypeId} {xs : List Value} (h : w.ownsRow lo e size (.slice (some ⟨g, 0, none⟩) n c) n xs) (ho : Outside lo' hi' w w') (hg : g < w.heap.size) (hd : g < lo' ∨ hi' ≤ g) : w'.ownsRow lo e size (.slice (some ⟨g, 0, none⟩) n c) n xs := by
  refine ⟨h.1, ?_⟩
  rcases h.2 with hn | ⟨g', cap, cur, hv, hbg, hgg, rest⟩
  · exact .inl hn
  · have hgg2 : g = g' := by
      injection hv with hv1 _ _
      injection hv1 with hv2
      injection hv2
    subst hgg2
    exact .inr ⟨g, cap, cur, hv, hbg, (ho.block g hg hd).trans hgg, rest⟩

/-- The kids' marks. -/
def MarkS (ks : List T) : Prop := ∀ (v : Value) (qs : List Q) (s : Int) (lo m hi : Nat) (w : World), Own4 lo m w v qs → lo ≤ m → TChain w ks m qs hi → 0 ≤ s → s + T.markss ks ≤ 1099511627776 →
  Calls Try.prog 58 #[v, .int .i64 s] w fun e w' => e = .returned (.int .i64 (s + T.markss ks)) ∧ Outside lo hi w w'
def MarkK : T → Prop
  | .node _ _ _ ks => MarkS ks

set_option maxRecDepth 20000 in
set_option maxHeartbeats 1600000 in
theorem markKids (ks : List T) (ih : ∀ t ∈ ks, MarkK t) : MarkS ks := by
  intro v qs s lo m hi w h1 hm hch hs0 hs1
  have hul : qs.length = ks.length := hch.len
  obtain ⟨N, hN⟩ : ∃ N, ks.length = N := ⟨_, rfl⟩
  obtain ⟨A, c, hv, hc1, hc2⟩ := row_slice h1.1
  subst hv
  rw [hul, hN] at h1 hc1 ⊢
  have hrow := h1.1
  have hrz := h1.2.1
  have hrg := h1.2.2
  rw [hul, hN] at hrow
  unfold maxLen at hc2
  obtain ⟨S, hS⟩ : ∃ S, T.markss ks = S := ⟨_, rfl⟩
  rw [hS] at hs1 ⊢
  have HSB := hide (fun j => hS ▸ T.markss_take ks j)
  have HSS := hide hS
  have HUL := hide hul
  have HNL := hide hN
  have HIH := hide ih
  have HRG := hide hrg
  clear hS hul hN ih h1 hrg
  go_enter Try.func58, Try.ntmps58
  go_wp2
  go_loopw [1, 5] (fun q i wr => ∃ j lj z : Nat, j ≤ N ∧ m ≤ lj ∧ i = .int .i64 j ∧ q = .int .i64 (s + z) ∧ Hid (T.markss (ks.take j) = z ∧ (∃ qs', Like qs qs' ∧ wr.ownsRow lo 31 4 (.slice A N c) N (qcells qs')) ∧ TChain wr (ks.drop j) lj (qs.drop j) hi ∧ Outside lo hi w wr ∧ m ≤ wr.heap.size))
    (fun _ i _ => N - (intOf i).toNat)
  case atStart => exact ⟨0, m, 0, Nat.zero_le _, Nat.le_refl _, rfl, by go_num, hide ⟨by simp [T.markss], ⟨qs, ⟨rfl, fun i q hq => ⟨q.k, hq⟩⟩, hrow⟩, hch, ⟨rfl, rfl, rfl, Nat.le_refl _, fun _ _ _ => rfl⟩, hrz⟩⟩
  case round =>
    obtain ⟨j, lj, z, hj, hlj, rfl, rfl, HR⟩ := hrel
    by_cases hlt : j < N
    · obtain ⟨hz, ⟨qs', hlk, hro⟩, hcj, hout, hmw⟩ := HR.out
      have hjn : j < ks.length := by rw [HNL.out]; exact hlt
      have hdr := List.drop_eq_getElem_cons hjn
      obtain ⟨t, ht⟩ : ∃ t, ks[j] = t := ⟨_, rfl⟩
      have hmem : t ∈ ks := by rw [← ht]; exact List.getElem_mem hjn
      have hnx := T.markss_next hjn
      rw [ht] at hdr hnx
      obtain ⟨kk, d, ns, kk2⟩ := t
      have hik := HIH.out _ hmem
      rw [MarkK] at hik
      rw [hdr, TChain] at hcj
      obtain ⟨q, r, m', hur, ho, hm', hcr⟩ := hcj
      have hju : j < qs.length := by rw [HUL.out]; exact hjn
      rw [List.drop_eq_getElem_cons hju] at hur
      injection hur with hu1 hu2
      have hget : qs[j]? = some q := by rw [List.getElem?_eq_getElem hju, hu1]
      obtain ⟨x0, hx0⟩ := hlk.2 j q hget
      obtain ⟨g, hg1, hg2, hg3⟩ := own_form hro (by omega)
      subst hg1
      have hgm : g < m := HRG.out g rfl
      obtain ⟨c0, c1, c2, c3⟩ := qcells_get hx0
      have hjq : 4 * j + 3 < (qcells qs').length := by rw [qcells_len]; have := hlk.1; omega
      have e0 := (hro.cellAt (4 * j) (by omega)).trans c0
      have e1 := (hro.cellAt (4 * j + 1) (by omega)).trans c1
      have e2 := (hro.cellAt (4 * j + 2) (by omega)).trans c2
      have e3 := (hro.cellAt (4 * j + 3) (by omega)).trans c3
      have hfz := hro.frozenAt (4 * j)
      have hst := (hro.stored (4 * j) (.int .i64 (s + z))).1
      rw [qcells_set qs' j _ _ hx0] at hst
      have hlk2 := hlk.set hget (s + z)
      have os := outside_set wr g (4 * j) (.int .i64 (s + z))
      rw [TOwn] at ho
      obtain ⟨_, a1, a2, a3, qq, b1, b2, od, on, o4, oc⟩ := ho
      rw [T.marks] at hnx
      have hsb := HSB.out (j + 1)
      rw [hnx, hz] at hsb
      obtain ⟨ws, hws⟩ : ∃ ws, wr.setCell ⟨g, 4 * j, none⟩ (.int .i64 (s + z)) = ws := ⟨_, rfl⟩
      have zs : ws.heap.size = wr.heap.size := by rw [← hws]; simp
      rw [hws] at hst os
      have hc1 := hcr.le
      have hoc := oc.le
      have hon := on.le
      have sz := hro
      obtain ⟨D, hD⟩ : ∃ D, d.length = D := ⟨_, rfl⟩
      obtain ⟨M, hM⟩ : ∃ M, sumLen ns = M := ⟨_, rfl⟩
      obtain ⟨KK, hKK⟩ : ∃ KK, T.markss kk2 = KK := ⟨_, rfl⟩
      rw [hD, hM, hKK] at hsb hnx
      have hgw : g < ws.heap.size := by omega
      have rowS := hst
      have c1 := hlk2.1
      have hgS : (qs'.set j ⟨s + z, q.d, q.n, q.c⟩)[j]? = some ⟨s + z, q.d, q.n, q.c⟩ := by rw [List.getElem?_set_self (by have := hlk.1; omega)]
      obtain ⟨_, cS1, cS2, cS3⟩ := qcells_get hgS
      have hjq2 : 4 * j + 3 < (qcells (qs'.set j ⟨s + z, q.d, q.n, q.c⟩)).length := by rw [qcells_len, List.length_set]; have := hlk.1; omega
      have odS := od.outside os (.inr (by omega))
      have onS := on.out os (by omega)
      have o4S := o4.out os (.inr (by omega))
      have ocS := oc.out os (by omega)
      have hcS := hcr.out os (by omega)
      have hd := markBytes d q.d (s + z + 1) lj a1 ws odS (by omega) ⟨by omega, by omega⟩
      rw [hD] at hd
      have step2 := fun (w2 : World) (o2 : Outside lj a1 ws w2) => markNames ns q.n (s + z + 1 + D) a1 a2 w2 (onS.out o2 (Nat.le_refl _)) (by omega) ⟨by omega, by omega⟩
      have step3 := fun (w2 w3 : World) (o2 : Outside lj a1 ws w2) (o3 : Outside a1 a2 w2 w3) => hik q.c qq (s + z + 1 + D + M) a2 a3 m' w3 ((o4S.out o2 (.inr (by omega))).out o3 (.inr (Nat.le_refl _))) b2 ((ocS.out o2 (by omega)).out o3 (by omega)) (by omega) (by omega)
      rw [hM] at step2
      rw [hKK] at step3
      have row2 := fun (w2 : World) (o2 : Outside lj a1 ws w2) => own_out rowS o2 hgw (.inl (by omega))
      have row3 := fun (w2 w3 : World) (o2 : Outside lj a1 ws w2) (o3 : Outside a1 a2 w2 w3) => own_out (row2 w2 o2) o3 (Nat.lt_of_lt_of_le hgw o2.size) (.inl (by omega))
      have cell2 := fun (w2 : World) (o2 : Outside lj a1 ws w2) => ((row2 w2 o2).cellAt (4 * j + 2) (by omega)).trans cS2
      have cell3 := fun (w2 w3 : World) (o2 : Outside lj a1 ws w2) (o3 : Outside a1 a2 w2 w3) => ((row3 w2 w3 o2 o3).cellAt (4 * j + 3) (by omega)).trans cS3
      have finish := fun (w2 w3 w4 : World) (o2 : Outside lj a1 ws w2) (o3 : Outside a1 a2 w2 w3) (o5 : Outside a2 m' w3 w4) =>
        (⟨hnx.trans (by rw [hz]), ⟨_, hlk2, own_out (row3 w2 w3 o2 o3) o5 (Nat.lt_of_lt_of_le hgw (Nat.le_trans o2.size o3.size)) (.inl (by omega))⟩,
          hu2 ▸ ((hcS.out o2 (by omega)).out o3 (by omega)).out o5 (Nat.le_refl _),
          (((hout.trans (outside_in os (by omega) (by omega))).trans (outside_in o2 (by omega) (by omega))).trans (outside_in o3 (by omega) (by omega))).trans (outside_in o5 (by omega) (by omega)),
          by have h1 := o2.size; have h2 := o3.size; have h3 := o5.size; omega⟩ :
          T.markss (ks.take (j + 1)) = z + (1 + (D + M + KK)) ∧ (∃ qs', Like qs qs' ∧ w4.ownsRow lo 31 4 (.slice (some ⟨g, 0, none⟩) N c) N (qcells qs')) ∧ TChain w4 (ks.drop (j + 1)) m' (qs.drop (j + 1)) hi ∧ Outside lo hi w w4 ∧ m ≤ w4.heap.size)
      rw [Nat.mul_comm 4 j] at e0 e1 hfz hws
      simp only [Nat.mul_comm 4 j] at cell2 cell3
      have k1 : (j : Int) < (N : Int) := by omega
      have k2 : m ≤ m' := by omega
      have k3 : z + (1 + (D + M + KK)) ≤ S := hsb
      have HD := hide hd
      have ST2 := hide step2
      have ST3 := hide step3
      have CELL2 := hide cell2
      have CELL3 := hide cell3
      have FIN := hide finish
      have HWS := hide hws
      clear hz hlk hro hout hmw hdr hnx hik hcr hju hu1 hu2 hget hx0 hg2 hg3 hgm c0 c1 c2 c3 cS1 cS2 cS3 hjq hjq2 hst rowS os od on o4 oc odS onS o4S ocS hcS b1 b2 hsb hws row2 row3 hd step2 step3 cell2 cell3 finish hgS hlk2 hgw ht hmem hc1 hoc hon sz e2 e3 zs hm' hD hM hKK HR hrow hch hm hrz
      go_wp2_with fail
      rw [HWS.out]
      refine HD.out.mono ?_
      rintro e w2 ⟨rfl, _, o2⟩
      have y2 := CELL2.out w2 o2
      have O2 := hide o2
      have S2 := hide (ST2.out w2 o2)
      clear e0 e1 hfz o2
      go_wp2_with fail
      refine S2.out.mono ?_
      rintro e w3 ⟨rfl, o3⟩
      have y3 := CELL3.out w2 w3 O2.out o3
      have O3 := hide o3
      have S3 := hide (ST3.out w2 w3 O2.out o3)
      clear y2 o3
      go_wp2_with fail
      refine S3.out.mono ?_
      rintro e w4 ⟨rfl, o5⟩
      have F := hide (FIN.out w2 w3 w4 O2.out O3.out o5)
      clear y3 o5
      go_wp2_with fail
      go_roundw
      case rel => exact ⟨j + 1, m', z + (1 + (D + M + KK)), by omega, k2, by go_num, by go_num, F⟩
      case measure => simp [intOf]; omega
    · obtain rfl : j = N := by omega
      have hz : z = S := by
        rw [← HR.out.1, List.take_of_length_le (by rw [HNL.out]; omega), HSS.out]
      subst hz
      have HO := hide HR.out.2.2.2.1
      clear HR
      go_wp2
      go_ret
      exact ⟨rfl, HO.out⟩

theorem markK : ∀ t : T, MarkK t := by
  intro t
  induction t using T.ind with
  | h k d ns ks ih =>
    rw [MarkK]
    exact markKids ks ih

set_option maxRecDepth 20000 in
set_option maxHeartbeats 1600000 in
theorem markTree (t : T) (q : Q) (s : Int) (lo hi : Nat) (w : World) (h : TOwn w t lo q hi) (hh : hi ≤ w.heap.size) (hs0 : 0 ≤ s) (hs1 : s + t.marks ≤ 1099511627776) :
    Calls Try.prog 22 #[q.val, .int .i64 s] w fun e w' => e = .returned (.int .i64 (s + t.marks)) ∧ Outside lo hi w w' := by
  obtain ⟨kk, d, ns, ks⟩ := t
  have hik := markK (.node kk d ns ks)
  rw [MarkK] at hik
  rw [T.marks] at hs1 ⊢
  obtain ⟨wa, hwa, box, ba, hz⟩ := boxed1 w q 31
  have ho := h.step ba
  rw [TOwn] at ho
  obtain ⟨hqk, a1, a2, a3, qq, b1, b2, od, on, o4, oc⟩ := ho
  have hoc := oc.le
  have hon := on.le
  obtain ⟨D, hD⟩ : ∃ D, d.length = D := ⟨_, rfl⟩
  obtain ⟨M, hM⟩ : ∃ M, sumLen ns = M := ⟨_, rfl⟩
  obtain ⟨KK, hKK⟩ : ∃ KK, T.markss ks = KK := ⟨_, rfl⟩
  rw [hD, hM, hKK] at hs1 ⊢
  have hd := markBytes d q.d s lo a1 wa od (by omega) ⟨hs0, by omega⟩
  rw [hD] at hd
  have step2 := fun (w2 : World) (o2 : Outside lo a1 wa w2) => markNames ns q.n (s + D) a1 a2 w2 (on.out o2 (Nat.le_refl _)) (by omega) ⟨by omega, by omega⟩
  have step3 := fun (w2 w3 : World) (o2 : Outside lo a1 wa w2) (o3 : Outside a1 a2 w2 w3) => hik q.c qq (s + D + M) a2 a3 hi w3 ((o4.out o2 (.inr (by omega))).out o3 (.inr (Nat.le_refl _))) b2 ((oc.out o2 (by omega)).out o3 (by omega)) (by omega) (by omega)
  rw [hM] at step2
  rw [hKK] at step3
  have cell2 := fun (w2 : World) (o2 : Outside lo a1 wa w2) => (box.out o2 (.inr (by omega))).c2
  have cell3 := fun (w2 w3 : World) (o2 : Outside lo a1 wa w2) (o3 : Outside a1 a2 w2 w3) => ((box.out o2 (.inr (by omega))).out o3 (.inr (by omega))).c3
  have finish := fun (w2 w3 w4 : World) (o2 : Outside lo a1 wa w2) (o3 : Outside a1 a2 w2 w3) (o5 : Outside a2 hi w3 w4) =>
    (((outside_in (Outside.of_below ba lo hi) (Nat.le_refl _) (Nat.le_refl _)).trans (outside_in o2 (Nat.le_refl _) (by omega))).trans (outside_in o3 (by omega) (by omega))).trans (outside_in o5 (by omega) (Nat.le_refl _))
  have y1 := box.c1
  have HD := hide hd
  have ST2 := hide step2
  have ST3 := hide step3
  have CELL2 := hide cell2
  have CELL3 := hide cell3
  have FIN := hide finish
  clear hqk hd step2 step3 cell2 cell3 finish h hh hik box ba od on o4 oc hD hM hKK
  go_enter Try.func22, Try.ntmps22
  go_wp2_with fail
  refine HD.out.mono ?_
  rintro e w2 ⟨rfl, _, o2⟩
  have y2 := CELL2.out w2 o2
  have O2 := hide o2
  have S2 := hide (ST2.out w2 o2)
  clear y1 o2
  go_wp2_with fail
  refine S2.out.mono ?_
  rintro e w3 ⟨rfl, o3⟩
  have y3 := CELL3.out w2 w3 O2.out o3
  have O3 := hide o3
  have S3 := hide (ST3.out w2 w3 O2.out o3)
  clear y2 o3
  go_wp2_with fail
  refine S3.out.mono ?_
  rintro e w4 ⟨rfl, o5⟩
  have F := hide (FIN.out w2 w3 w4 O2.out O3.out o5)
  clear y3 o5
  go_wp2
  go_ret
  exact ⟨ret_int (by push_cast; omega), F.out⟩

end Go.Proofs.Ytchmppikpeeghaa
