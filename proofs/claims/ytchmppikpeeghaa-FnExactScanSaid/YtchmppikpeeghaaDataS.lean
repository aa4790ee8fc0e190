/-
  The model's TreeData.
-/
import Derived.Test.YtchmppikpeeghaaLoopN
namespace Go.Proofs.Ytchmppikpeeghaa
open Go.RowKit
set_option linter.unusedVariables false

mutual
/-- The data of all nodes, in order. -/
def T.dat : T → List Int
  | .node _ d _ ks => d ++ T.dats ks
def T.dats : List T → List Int
  | [] => []
  | t :: ts => t.dat ++ T.dats ts
end
theorem T.dats_next {ks : List T} {j : Nat} (h : j < ks.length) : T.dats (ks.take (j + 1)) = T.dats (ks.take j) ++ (ks[j]).dat := by
  induction ks generalizing j with
  | nil => simp at h
  | cons t r ih =>
    cases j with
    | zero => simp [T.dats]
    | succ j =>
      have := ih (j := j) (by simpa using h)
      simp only [List.take_succ_cons, T.dats, List.getElem_cons_succ, List.append_assoc] at *
      rw [this]
theorem T.dats_take (ks : List T) (j : Nat) : (T.dats (ks.take j)).length ≤ (T.dats ks).length := by
  induction ks generalizing j with
  | nil => simp [T.dats]
  | cons t r ih =>
    cases j with
    | zero => simp [T.dats]
    | succ j =>
      have := ih j
      simp only [List.take_succ_cons, T.dats, List.length_append]
      omega

/-- An append to an owned row of bytes keeps every node and every tree. -/
theorem holds_row {w w' : World} {lo size n : Nat} {v : Value} {xs : List Value} (h : w.ownsRow lo 5 size v n xs) (hg : w.grownBy w' v.ownBlock) (hl : lo ≤ w.heap.size) : Holds lo w w' := by
  refine ⟨(Below.refl lo w).grown hg hl fun g hgk => (h.lt g hgk).1, fun k cs t r hk ht => ?_⟩
  refine (hg.block k (Array.getElem?_eq_some_iff.1 hk).1 (fun e => ?_)).trans hk
  rcases h.2 with ⟨rfl, _⟩ | ⟨g, cap, cur, rfl, _, hgb, _⟩
  · simp [Value.ownBlock] at e
  · obtain rfl : k = g := by simpa [Value.ownBlock] using e
    rw [hgb] at hk
    injection hk with hk
    injection hk with _ hk _
    rcases ht with ht | ht
    · exact absurd (hk.trans ht) (by decide)
    · exact absurd (hk.trans ht) (by decide)

def DatAt (t : T) : Prop := ∀ (l : List Int) (v : Value) (q : Q) (lo : Nat) (w w0 : World), w.ownsRow lo 5 1 v l.length (bs l) → w0.heap.size = lo → Below lo w0 w → TIn w0 t q → l.length + t.dat.length ≤ 1099511627776 →
  Calls Try.prog 59 #[v, q.val] w fun e w' => ∃ v', e = .returned v' ∧ w'.ownsRow lo 5 1 v' (l ++ t.dat).length (bs (l ++ t.dat)) ∧ Holds lo w w'

set_option maxRecDepth 20000 in
set_option maxHeartbeats 1600000 in
theorem specData : ∀ t : T, DatAt t := by
  intro t
  induction t using T.ind with
  | h k d ns ks ih =>
    intro l v q lo w w0 hv h0 hb hq hlen
    obtain ⟨i0, hi0, hz0, hz1, hz2⟩ := info_parts u8info
    have hlo : lo ≤ w.heap.size := by rw [← h0]; exact hb.size
    obtain ⟨A, c, A', c', A'', c'', ed, hc1, hc2, en, hc1', hc2', ec, hc1'', hc2''⟩ := hq.lens
    rw [TIn] at hq
    obtain ⟨hk, hdr, hn, qs, hkk, hks⟩ := hq
    rw [T.dat, List.length_append] at hlen
    obtain ⟨K, hK⟩ : ∃ K, ks.length = K := ⟨_, rfl⟩
    obtain ⟨D, hD⟩ : ∃ D, d.length = D := ⟨_, rfl⟩
    obtain ⟨N, hN⟩ : ∃ N, ns.length = N := ⟨_, rfl⟩
    rw [hD] at ed hc1 hlen
    rw [hN] at en
    rw [hK] at ec hc1''
    unfold maxLen at hc2 hc2''
    obtain ⟨wa, hwa, box, ba, hz⟩ := boxed w q 31
    rw [hk] at hwa box
    rw [ec] at hwa box
    rw [ed] at hwa box
    rw [en] at hwa box
    rw [show q.val = .agg #[.int .i64 k, .slice A D c, .slice A' N c', .slice A'' K c''] by rw [← hk, ← ed, ← en, ← ec]]
    rw [ec] at hkk
    rw [ed] at hdr
    have hva : wa.ownsRow lo 5 1 v l.length (bs l) := by rw [← hwa]; exact hv.alloc _
    have hba : Below lo w0 wa := hb.trans (ba.mono hlo)
    have hla : lo ≤ wa.heap.size := by omega
    have hda : Rd wa (.slice A D c) (bs d) := hdr.below (by rw [h0]; exact hba)
    have x1 := box.c1
    have hall : T.dat (.node k d ns ks) = d ++ T.dats ks := by rw [T.dat]
    have hlt2 : ∀ j, (T.dats (ks.take j)).length ≤ (T.dats ks).length := T.dats_take ks
    have HVA := hide hva
    have HDA := hide hda
    have HBOX := hide box
    have HKK := hide hkk
    have HKS := hide hks
    have HIH := hide ih
    have HKL := hide hK
    have HDL := hide hD
    have HALL := hide hall
    have HW0 := hide h0
    have HBA := hide hba
    have HLA := hide hla
    have HHW := hide (Holds.of_below ba hlo)
    have HLT2 := hide hlt2
    generalize hT : (T.dats ks).length = TT at *
    have HTT := hide hT
    clear box hkk hks ih hK hD hN hn ed en ec hk hc1' hc2' hall hva hda hdr h0 hba hb hv hlt2 hT ba
    go_enter Try.func59, Try.ntmps59
    go_wp2_with (at_builtin; refine wpList_app _ rfl (.tmp 6) (.tmp 8) _ rfl lo 5 i0 _ 1 Try.underlying22 hi0 hz0 hz1 hz2 rfl _ _ _ rfl HVA.out _ (bs d) rfl HDA.out (bs_one d) (by rw [bs_length, HDL.out]; simp only [maxLen]; omega) (by rw [bs_length, HDL.out]; omega) HLA.out ?_; intro v2 w2 own2 gr2)
    have hr2 := holds_row HVA.out gr2 HLA.out
    have o2 : w2.ownsRow lo 5 1 v2 (l ++ d ++ T.dats (ks.take 0)).length (bs (l ++ d ++ T.dats (ks.take 0))) := by
      have e0 : l ++ d ++ T.dats (ks.take 0) = l ++ d := by simp [T.dats]
      rw [e0]
      exact own_len (own_cells own2 (bs_append _ _).symm) (by rw [List.length_append, bs_length])
    have box2 := HBOX.out.holds hr2
    have x3 := box2.c3
    have HO2 := hide o2
    have HR2 := hide hr2
    have HB2 := hide box2
    clear own2 gr2 hr2 o2 box2 x1 hwa
    go_loopw [0, 5] (fun u i wr => ∃ j : Nat, j ≤ K ∧ i = .int .i64 j ∧ Hid (wr.ownsRow lo 5 1 u (l ++ d ++ T.dats (ks.take j)).length (bs (l ++ d ++ T.dats (ks.take j)))) ∧ Hid (Holds lo wa wr) ∧ C4 wr w.heap.size 31 (.int .i64 k) (.slice A D c) (.slice A' N c') (.slice A'' K c''))
      (fun _ i _ => K - (intOf i).toNat)
    case atStart => exact ⟨0, Nat.zero_le _, rfl, HO2, HR2, HB2.out⟩
    case round =>
      obtain ⟨j, hj, rfl, HOW, HHO, box⟩ := hrel
      have x3 := box.c3
      by_cases hlt : j < K
      · have hjk : j < ks.length := by rw [HKL.out]; exact hlt
        obtain ⟨q', hq', hqt⟩ := HKS.out.at_ j ks[j] (List.getElem?_eq_getElem hjk)
        obtain ⟨b3, off3, hA3, hb3, rng⟩ := HKK.out.get hq'
        subst hA3
        have hbw : Below lo w0 wr := HBA.out.trans HHO.out.below
        have rng2 := rangeAt_below rng (by rw [HW0.out]; exact hbw) hb3
        have hnext := T.dats_next hjk
        have hl2 := HLT2.out (j + 1)
        have hl3 := HLT2.out j
        have hcall := HIH.out ks[j] (List.getElem_mem hjk) (l ++ d ++ T.dats (ks.take j)) u0 q' lo wr w0 HOW.out HW0.out hbw hqt (by
          rw [hnext, List.length_append] at hl2
          simp only [List.length_append, HDL.out]
          omega)
        have HRNG := hide rng2
        have HC := hide hcall
        have HB := hide box
        have HNX := hide hnext
        have k1 : (j : Int) < (K : Int) := by omega
        clear rng rng2 hq' hqt hbw box hnext hb3 hcall hl2 hl3
        go_wp2_with ((with_reducible refine at_slot 22 ?_); refine wpList_load_mid rfl _ _ rfl b3 (off3 + j * 4) rfl _ _ HRNG.out Try.underlying31 rfl (by kernel_rfl) ?_)
        refine HC.out.mono ?_
        rintro e w3 ⟨v3, rfl, o3, h3⟩
        have HO3 : Hid (w3.ownsRow lo 5 1 v3 (l ++ d ++ T.dats (ks.take (j + 1))).length (bs (l ++ d ++ T.dats (ks.take (j + 1))))) := hide (by rw [HNX.out, ← List.append_assoc]; exact o3)
        have HH3 := hide h3
        clear o3 h3 x3
        go_wp2_with fail
        go_roundw
        case rel => exact ⟨j + 1, by omega, by go_num, HO3, hide (HHO.out.trans HH3.out), HB.out.holds HH3.out⟩
        case measure => simp [intOf]; omega
      · obtain rfl : j = K := by omega
        have e2 : ks.take j = ks := List.take_of_length_le (by rw [HKL.out]; omega)
        rw [e2] at HOW
        have HF : Hid (wr.ownsRow lo 5 1 u0 (l ++ T.dat (.node k d ns ks)).length (bs (l ++ T.dat (.node k d ns ks)))) := hide (by rw [HALL.out, ← List.append_assoc]; exact HOW.out)
        clear box e2 HOW
        go_wp2
        go_ret
        exact ⟨_, rfl, HF.out, HHW.out.trans HHO.out⟩

end Go.Proofs.Ytchmppikpeeghaa
