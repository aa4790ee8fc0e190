/-
  The model's TreeDepth.
-/
import Derived.Test.YtchmppikpeeghaaSizeS
namespace Go.Proofs.Ytchmppikpeeghaa
open Go.RowKit
set_option linter.unusedVariables false

mutual
def T.deep : T → Nat
  | .node _ _ _ ks => T.deeps ks
/-- The greatest of the kids' depths, each with its own step. -/
def T.deeps : List T → Nat
  | [] => 0
  | t :: ts => max (1 + t.deep) (T.deeps ts)
end
theorem T.deeps_snoc (ts : List T) (t : T) : T.deeps (ts ++ [t]) = max (T.deeps ts) (1 + t.deep) := by
  induction ts with
  | nil => simp [T.deeps]
  | cons u ts ih => simp only [List.cons_append, T.deeps, ih]; omega
theorem T.deeps_next {ks : List T} {j : Nat} (h : j < ks.length) : T.deeps (ks.take (j + 1)) = max (T.deeps (ks.take j)) (1 + (ks[j]).deep) := by
  rw [← T.deeps_snoc, List.take_append_getElem h]
theorem T.deep_le : ∀ t : T, t.deep + 1 ≤ t.size := by
  intro t
  induction t using T.ind with
  | h k d ns ks ih =>
    rw [T.deep, T.size]
    have : T.deeps ks ≤ T.sizes ks := by
      induction ks with
      | nil => simp [T.deeps, T.sizes]
      | cons t r ih2 =>
        rw [T.deeps, T.sizes]
        have h1 := ih t (List.mem_cons_self ..)
        have h2 := ih2 fun t ht => ih t (List.mem_cons_of_mem _ ht)
        omega
    omega
theorem T.size_mem {ts : List T} {t : T} (h : t ∈ ts) : t.size ≤ T.sizes ts := by
  induction ts with
  | nil => cases h
  | cons t0 ts ih =>
    rw [T.sizes]
    rcases List.mem_cons.1 h with rfl | h
    · omega
    · have := ih h; omega

def DeepAt (t : T) : Prop := ∀ (q : Q) (w : World), t.size ≤ 1000 → TIn w t q →
  Calls Try.prog 61 #[q.val] w fun e w' => e = .returned (.int .i64 t.deep) ∧ Below w.heap.size w w'

set_option maxRecDepth 20000 in
set_option maxHeartbeats 1600000 in
theorem specDeep : ∀ t : T, DeepAt t := by
  intro t
  induction t using T.ind with
  | h k d ns ks ih =>
    intro q w hs hq
    obtain ⟨A, c, A', c', A'', c'', ed, hc1, hc2, en, hc1', hc2', ec, hc1'', hc2''⟩ := hq.lens
    rw [TIn] at hq
    obtain ⟨hk, _, hn, qs, hkk, hks⟩ := hq
    obtain ⟨K, hK⟩ : ∃ K, ks.length = K := ⟨_, rfl⟩
    obtain ⟨D, hD⟩ : ∃ D, d.length = D := ⟨_, rfl⟩
    obtain ⟨N, hN⟩ : ∃ N, ns.length = N := ⟨_, rfl⟩
    rw [hD] at ed
    rw [hN] at en
    rw [hK] at ec hc1''
    rw [T.size] at hs
    have hmem : ∀ t ∈ ks, t.size ≤ 1000 := fun t ht => by have := T.size_mem ht; omega
    unfold maxLen at hc2''
    obtain ⟨wa, hwa, box, ba, hz⟩ := boxed w q 31
    rw [hk] at hwa box
    rw [ec] at hwa box
    rw [ed] at hwa box
    rw [en] at hwa box
    rw [show q.val = .agg #[.int .i64 k, .slice A D c, .slice A' N c', .slice A'' K c''] by rw [← hk, ← ed, ← en, ← ec]]
    rw [ec] at hkk
    have HBOX := hide box
    have HKK := hide hkk
    have HKS := hide hks
    have HIH := hide ih
    have HM := hide hmem
    have HKL := hide hK
    have hsz : ∀ j, T.deeps (ks.take j) ≤ 1000 := fun j => by
      have h1 := T.deep_le (.node k d ns (ks.take j))
      have h2 := T.sizes_take ks j
      rw [T.deep, T.size] at h1
      omega
    have HSZ := hide hsz
    have hall : T.deep (.node k d ns ks) = T.deeps ks := by rw [T.deep]
    have HALL := hide hall
    clear box hkk hks ih hmem hK hn ed en ec hk hD hN hc1 hc2 hc1' hc2' hs hsz hall
    go_enter Try.func61, Try.ntmps61
    go_wp2
    go_loopw [3, 4] (fun u i wr => ∃ j m : Nat, j ≤ K ∧ m ≤ 1000 ∧ i = .int .i64 j ∧ u = .int .i64 m ∧ Hid (T.deeps (ks.take j) = m) ∧ Below w.heap.size w wr ∧ C4 wr w.heap.size 31 (.int .i64 k) (.slice A D c) (.slice A' N c') (.slice A'' K c''))
      (fun _ i _ => K - (intOf i).toNat)
    case atStart => exact ⟨0, 0, Nat.zero_le _, Nat.zero_le _, rfl, rfl, hide (by simp [T.deeps]), ba, HBOX.out⟩
    case round =>
      obtain ⟨j, m, hj, hm, rfl, rfl, HDM, hbel, box⟩ := hrel
      have x3 := box.c3
      by_cases hlt : j < K
      · have hjk : j < ks.length := by rw [HKL.out]; exact hlt
        obtain ⟨q', hq', hqt⟩ := HKS.out.at_ j ks[j] (List.getElem?_eq_getElem hjk)
        have hkk := HKK.out
        obtain ⟨b3, off3, hA3, hb3, rng⟩ := hkk.get hq'
        subst hA3
        have rng2 := rangeAt_below rng hbel hb3
        have hcall := HIH.out ks[j] (List.getElem_mem hjk) q' wr (HM.out _ (List.getElem_mem hjk)) (hqt.below hbel)
        have hnext := T.deeps_next hjk
        have hle := HSZ.out (j + 1)
        rw [HDM.out] at hnext
        have HRNG := hide rng2
        have HB := hide hbel
        have HBX := hide box
        generalize (ks[j]).deep = z at *
        rw [hnext] at hle
        have HNX := hide hnext
        have k1 : (j : Int) < (K : Int) := by omega
        have k4 : 1 + z ≤ 1000 := by omega
        clear hkk rng rng2 hq' hqt hbel box hnext hb3 hle
        by_cases hgt : m < 1 + z
        · have hg2 : (m : Int) < 1 + (z : Int) := by omega
          go_wp2_with ((with_reducible refine at_slot 17 ?_); refine wpList_load_mid rfl _ _ rfl b3 (off3 + j * 4) rfl _ _ HRNG.out Try.underlying31 rfl (by kernel_rfl) ?_)
          refine hcall.mono ?_
          rintro e w2 ⟨rfl, bb2⟩
          go_wp2_with fail
          go_roundw
          case rel => exact ⟨j + 1, 1 + z, by omega, by omega, by go_num, by go_num, hide (by rw [HNX.out]; omega), HB.out.trans (bb2.mono HB.out.size), HBX.out.step bb2⟩
          case measure => simp [intOf]; omega
        · have hg2 : ¬ (m : Int) < 1 + (z : Int) := by omega
          go_wp2_with ((with_reducible refine at_slot 17 ?_); refine wpList_load_mid rfl _ _ rfl b3 (off3 + j * 4) rfl _ _ HRNG.out Try.underlying31 rfl (by kernel_rfl) ?_)
          refine hcall.mono ?_
          rintro e w2 ⟨rfl, bb2⟩
          go_wp2_with fail
          go_roundw
          case rel => exact ⟨j + 1, m, by omega, hm, by go_num, rfl, hide (by rw [HNX.out]; omega), HB.out.trans (bb2.mono HB.out.size), HBX.out.step bb2⟩
          case measure => simp [intOf]; omega
      · obtain rfl : j = K := by omega
        have e2 : ks.take j = ks := List.take_of_length_le (by rw [HKL.out]; omega)
        rw [e2] at HDM
        have HB := hide hbel
        clear hbel box e2
        go_wp2
        go_ret
        exact ⟨ret_int (by rw [HALL.out, HDM.out]), HB.out⟩

/-- What TreeDepth answers. -/
def deepOf (t : T) : Int := if treeOk t then t.deep else -1

set_option maxRecDepth 20000 in
set_option maxHeartbeats 1600000 in
theorem specTreeDepth (t : T) (hB : t.Byts) (q : Q) (w : World) (hq : TIn w t q) :
    Calls Try.prog 29 #[q.val] w fun e w' => e = .returned (.int .i64 (deepOf t)) ∧ Below w.heap.size w w' := by
  obtain ⟨wa, hwa, box, ba, hz⟩ := boxed w q 31
  have x0 := box.c0
  have x1 := box.c1
  have x2 := box.c2
  have x3 := box.c3
  have hok := specTreeOk t hB q wa (hq.below ba)
  have hsz := fun W (hb : Below w.heap.size w W) (hl : t.size ≤ 1000) => specDeep t q W hl (hq.below hb)
  have HSZ := hide hsz
  have HBOX := hide box
  cases hv : treeOk t with
  | false =>
    have hS : deepOf t = -1 := by rw [deepOf, hv]; rfl
    rw [hv] at hok
    have HS := hide hS
    have HOK := hide hok
    clear hok hsz hS hv hB hq box
    go_enter Try.func29, Try.ntmps29
    go_wp2_with fail
    refine HOK.out.mono ?_
    rintro e w1 ⟨rfl, b1⟩
    go_wp2
    go_ret
    exact ⟨ret_int HS.out.symm, ba.trans (b1.mono ba.size)⟩
  | true =>
    have hS : deepOf t = t.deep := by rw [deepOf, hv]; rfl
    have hl : t.size ≤ 40 := by
      rw [treeOk, Bool.and_eq_true, decide_eq_true_eq] at hv
      exact hv.2
    rw [hv] at hok
    have HS := hide hS
    have HOK := hide hok
    generalize t.deep = z at *
    have HSZ2 := hide (fun W hb => HSZ.out W hb (by omega))
    clear hok hsz hS hv hB hq box HSZ
    go_enter Try.func29, Try.ntmps29
    go_wp2_with fail
    refine HOK.out.mono ?_
    rintro e w1 ⟨rfl, b1⟩
    have box1 := HBOX.out.step b1
    have d1 := ba.trans (b1.mono ba.size)
    have x0 := box1.c0
    have x1 := box1.c1
    have x2 := box1.c2
    have x3 := box1.c3
    go_wp2_with fail
    refine (HSZ2.out w1 d1).mono ?_
    rintro e w2 ⟨rfl, b2⟩
    have hf := d1.trans (b2.mono d1.size)
    have HF := hide hf
    clear x0 x1 x2 x3 box1 d1 b2 b1 hf ba
    go_wp2
    go_ret
    exact ⟨ret_int HS.out.symm, HF.out⟩

end Go.Proofs.Ytchmppikpeeghaa
