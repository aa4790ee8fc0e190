/-
  The model's CountKind.
-/
import Derived.Test.YtchmppikpeeghaaSizeS
namespace Go.Proofs.Ytchmppikpeeghaa
open Go.RowKit
set_option linter.unusedVariables false

mutual
/-- How many nodes are of the kind kk. -/
def T.cnt (kk : Int) : T → Nat
  | .node k _ _ ks => (if k = kk then 1 else 0) + T.cnts kk ks
def T.cnts (kk : Int) : List T → Nat
  | [] => 0
  | t :: ts => t.cnt kk + T.cnts kk ts
end
theorem T.cnts_next {kk : Int} {ks : List T} {j : Nat} (h : j < ks.length) : T.cnts kk (ks.take (j + 1)) = T.cnts kk (ks.take j) + (ks[j]).cnt kk := by
  induction ks generalizing j with
  | nil => simp at h
  | cons t r ih =>
    cases j with
    | zero => simp [T.cnts]
    | succ j =>
      have := ih (j := j) (by simpa using h)
      simp only [List.take_succ_cons, T.cnts, List.getElem_cons_succ] at *
      omega
theorem T.cnts_take (kk : Int) (ks : List T) (j : Nat) : T.cnts kk (ks.take j) ≤ T.cnts kk ks := by
  induction ks generalizing j with
  | nil => simp [T.cnts]
  | cons t r ih =>
    cases j with
    | zero => simp [T.cnts]
    | succ j =>
      have := ih j
      simp only [List.take_succ_cons, T.cnts]
      omega
theorem T.cnts_le (kk : Int) (ks : List T) (h : ∀ t ∈ ks, t.cnt kk ≤ t.size) : T.cnts kk ks ≤ T.sizes ks := by
  induction ks with
  | nil => simp [T.cnts, T.sizes]
  | cons t r ih =>
    rw [T.cnts, T.sizes]
    have h1 := h t (List.mem_cons_self ..)
    have h2 := ih fun t ht => h t (List.mem_cons_of_mem _ ht)
    omega
theorem T.cnt_le (kk : Int) : ∀ t : T, t.cnt kk ≤ t.size := by
  intro t
  induction t using T.ind with
  | h k d ns ks ih =>
    have := T.cnts_le kk ks ih
    rw [T.cnt, T.size]
    split <;> omega
theorem T.size_mem2 {ts : List T} {t : T} (h : t ∈ ts) : t.size ≤ T.sizes ts := by
  induction ts with
  | nil => cases h
  | cons t0 ts ih =>
    rw [T.sizes]
    rcases List.mem_cons.1 h with rfl | h
    · omega
    · have := ih h; omega

def CntAt (t : T) : Prop := ∀ (kk : Int) (q : Q) (w : World), t.size ≤ 1000 → TIn w t q →
  Calls Try.prog 62 #[q.val, .int .i64 kk] w fun e w' => e = .returned (.int .i64 (t.cnt kk)) ∧ Below w.heap.size w w'

set_option maxRecDepth 20000 in
set_option maxHeartbeats 1600000 in
theorem specCnt : ∀ t : T, CntAt t := by
  intro t
  induction t using T.ind with
  | h k d ns ks ih =>
    intro kk q w hs hq
    obtain ⟨A, c, A', c', A'', c'', ed, hc1, hc2, en, hc1', hc2', ec, hc1'', hc2''⟩ := hq.lens
    rw [TIn] at hq
    obtain ⟨hk, _, hn, qs, hkk, hks⟩ := hq
    obtain ⟨K, hK⟩ : ∃ K, ks.length = K := ⟨_, rfl⟩
    obtain ⟨D, hD⟩ : ∃ D, d.length = D := ⟨_, rfl⟩
    obtain ⟨N, hN⟩ : ∃ N, ns.length = N := ⟨_, rfl⟩
    rw [hD] at ed
    rw [hN] at en
    rw [hK] at ec hc1''
    rw [T.size] at hs
    have hmem : ∀ t ∈ ks, t.size ≤ 1000 := fun t ht => by have := T.size_mem2 ht; omega
    unfold maxLen at hc2''
    obtain ⟨wa, hwa, box, ba, hz⟩ := boxed w q 31
    rw [hk] at hwa box
    rw [ec] at hwa box
    rw [ed] at hwa box
    rw [en] at hwa box
    rw [show q.val = .agg #[.int .i64 k, .slice A D c, .slice A' N c', .slice A'' K c''] by rw [← hk, ← ed, ← en, ← ec]]
    rw [ec] at hkk
    have HBOX := hide box
    have HKK := hide hkk
    have HKS := hide hks
    have HIH := hide ih
    have HM := hide hmem
    have HKL := hide hK
    obtain ⟨E, hE⟩ : ∃ E : Nat, (if k = kk then 1 else 0) = E := ⟨_, rfl⟩
    have hE1 : E ≤ 1 := by rw [← hE]; split <;> omega
    have hall : T.cnt kk (.node k d ns ks) = E + T.cnts kk ks := by rw [T.cnt, hE]
    have hsz : ∀ j, E + T.cnts kk (ks.take j) ≤ 1000 := fun j => by
      have h1 := T.cnt_le kk (.node k d ns ks)
      have h2 := T.cnts_take kk ks j
      rw [hall, T.size] at h1
      omega
    have HSZ := hide hsz
    have HALL := hide hall
    have x0 := box.c0
    clear box hkk hks ih hmem hK hn ed en ec hk hD hN hc1 hc2 hc1' hc2' hs hsz hall
    go_enter Try.func62, Try.ntmps62
    go_upto_if 10 with (fail)
    go_cut [5] (fun u wx => u = .int .i64 E ∧ wx = wa)
    case first =>
      by_cases h : k = kk
      · subst h
        rw [if_pos rfl] at hE
        subst hE
        clear HBOX HKK HKS HIH HM HKL HSZ HALL
        go_wp2
        go_meet
        exact ⟨rfl, rfl⟩
      · rw [if_neg h] at hE
        subst hE
        have hb : (k == kk) = false := by simpa using h
        clear HBOX HKK HKS HIH HM HKL HSZ HALL
        go_wp2
        go_meet
        exact ⟨rfl, rfl⟩
    case rest =>
      obtain ⟨rfl, rfl⟩ := hcut
      clear hE x0
      go_wp2
      go_loopw [5, 6] (fun u i wr => ∃ j m : Nat, j ≤ K ∧ m ≤ 1000 ∧ i = .int .i64 j ∧ u = .int .i64 m ∧ Hid (E + T.cnts kk (ks.take j) = m) ∧ Below w.heap.size w wr ∧ C4 wr w.heap.size 31 (.int .i64 k) (.slice A D c) (.slice A' N c') (.slice A'' K c''))
        (fun _ i _ => K - (intOf i).toNat)
      case atStart => exact ⟨0, E, Nat.zero_le _, by omega, rfl, rfl, hide (by simp [T.cnts]), ba, HBOX.out⟩
      case round =>
        obtain ⟨j, m, hj, hm, rfl, rfl, HDM, hbel, box⟩ := hrel
        have x3 := box.c3
        by_cases hlt : j < K
        · have hjk : j < ks.length := by rw [HKL.out]; exact hlt
          obtain ⟨q', hq', hqt⟩ := HKS.out.at_ j ks[j] (List.getElem?_eq_getElem hjk)
          have hkk := HKK.out
          obtain ⟨b3, off3, hA3, hb3, rng⟩ := hkk.get hq'
          subst hA3
          have rng2 := rangeAt_below rng hbel hb3
          have hcall := HIH.out ks[j] (List.getElem_mem hjk) kk q' wr (HM.out _ (List.getElem_mem hjk)) (hqt.below hbel)
          have hnext := T.cnts_next (kk := kk) hjk
          have hle := HSZ.out (j + 1)
          have hdm := HDM.out
          have HRNG := hide rng2
          have HB := hide hbel
          have HBX := hide box
          generalize (ks[j]).cnt kk = z at *
          have hnx : E + T.cnts kk (ks.take (j + 1)) = m + z := by omega
          have HNX := hide hnx
          have k1 : (j : Int) < (K : Int) := by omega
          have k4 : m + z ≤ 1000 := by omega
          clear hkk rng rng2 hq' hqt hbel box hnext hb3 hle hdm hnx
          go_wp2_with ((with_reducible refine at_slot 25 ?_); refine wpList_load_mid rfl _ _ rfl b3 (off3 + j * 4) rfl _ _ HRNG.out Try.underlying31 rfl (by kernel_rfl) ?_)
          refine hcall.mono ?_
          rintro e w2 ⟨rfl, bb2⟩
          go_wp2_with fail
          go_roundw
          case rel => exact ⟨j + 1, m + z, by omega, by omega, by go_num, by go_num, hide HNX.out, HB.out.trans (bb2.mono HB.out.size), HBX.out.step bb2⟩
          case measure => simp [intOf]; omega
        · obtain rfl : j = K := by omega
          have e2 : ks.take j = ks := List.take_of_length_le (by rw [HKL.out]; omega)
          rw [e2] at HDM
          have HB := hide hbel
          clear hbel box e2
          go_wp2
          go_ret
          exact ⟨ret_int (by rw [HALL.out, HDM.out]), HB.out⟩

/-- What CountKind answers. -/
def kindOf (t : T) (kk : Int) : Int := if treeOk t then t.cnt kk else -1

set_option maxRecDepth 20000 in
set_option maxHeartbeats 1600000 in
theorem specCountKind (t : T) (hB : t.Byts) (kk : Int) (q : Q) (w : World) (hq : TIn w t q) :
    Calls Try.prog 31 #[q.val, .int .i64 kk] w fun e w' => e = .returned (.int .i64 (kindOf t kk)) ∧ Below w.heap.size w w' := by
  obtain ⟨wa, hwa, box, ba, hz⟩ := boxed w q 31
  have x0 := box.c0
  have x1 := box.c1
  have x2 := box.c2
  have x3 := box.c3
  have hok := specTreeOk t hB q wa (hq.below ba)
  have hsz := fun W (hb : Below w.heap.size w W) (hl : t.size ≤ 1000) => specCnt t kk q W hl (hq.below hb)
  have HSZ := hide hsz
  have HBOX := hide box
  cases hv : treeOk t with
  | false =>
    have hS : kindOf t kk = -1 := by rw [kindOf, hv]; rfl
    rw [hv] at hok
    have HS := hide hS
    have HOK := hide hok
    clear hok hsz hS hv hB hq box
    go_enter Try.func31, Try.ntmps31
    go_wp2_with fail
    refine HOK.out.mono ?_
    rintro e w1 ⟨rfl, b1⟩
    go_wp2
    go_ret
    exact ⟨ret_int HS.out.symm, ba.trans (b1.mono ba.size)⟩
  | true =>
    have hS : kindOf t kk = t.cnt kk := by rw [kindOf, hv]; rfl
    have hl : t.size ≤ 40 := by
      rw [treeOk, Bool.and_eq_true, decide_eq_true_eq] at hv
      exact hv.2
    rw [hv] at hok
    have HS := hide hS
    have HOK := hide hok
    generalize t.cnt kk = z at *
    have HSZ2 := hide (fun W hb => HSZ.out W hb (by omega))
    clear hok hsz hS hv hB hq box HSZ
    go_enter Try.func31, Try.ntmps31
    go_wp2_with fail
    refine HOK.out.mono ?_
    rintro e w1 ⟨rfl, b1⟩
    have box1 := HBOX.out.step b1
    have d1 := ba.trans (b1.mono ba.size)
    have x0 := box1.c0
    have x1 := box1.c1
    have x2 := box1.c2
    have x3 := box1.c3
    go_wp2_with fail
    refine (HSZ2.out w1 d1).mono ?_
    rintro e w2 ⟨rfl, b2⟩
    have hf := d1.trans (b2.mono d1.size)
    have HF := hide hf
    clear x0 x1 x2 x3 box1 d1 b2 b1 hf ba
    go_wp2
    go_ret
    exact ⟨ret_int HS.out.symm, HF.out⟩

end Go.Proofs.Ytchmppikpeeghaa
