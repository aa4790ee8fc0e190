/-
  The model's Fill, whole.
-/
import Derived.Test.YtchmppikpeeghaaFillS
import Derived.Test.YtchmppikpeeghaaFillW
namespace Go.Proofs.Ytchmppikpeeghaa
open Go.RowKit
set_option linter.unusedVariables false

set_option maxRecDepth 20000 in
set_option maxHeartbeats 1600000 in
theorem specFill (b : List Int) (args : List (List Int)) (hB : Byt b) (hA : BytN args) (vb va : Value) (w : World) (hb : Rd w vb (bs b)) (hn : RdN w va args) (hl : ∀ n ∈ args, n.length ≤ 1048576) :
    Calls Try.prog 45 #[vb, va] w fun e w' => ∃ v, e = .returned (.tuple #[v, .bool (fillR b args).isSome]) ∧ Own 5 w.heap.size w'.heap.size w' v (bs ((fillR b args).getD [])) ∧ Below w.heap.size w w' := by
  obtain ⟨A', c', rfl, hc1', hc2'⟩ := names_form hn
  obtain ⟨A, c, rfl, hc1, hc2, _⟩ := id hb
  rw [bs_length] at hb hc1 ⊢
  unfold maxLen at hc2 hc2'
  have nope : ∀ (W : World), Below w.heap.size w W → fillR b args = none → ∃ v, Ending.returned (.tuple #[.slice none 0 0, .bool false]) = .returned (.tuple #[v, .bool (fillR b args).isSome]) ∧ Own 5 w.heap.size W.heap.size W v (bs ((fillR b args).getD [])) ∧ Below w.heap.size w W := fun W hW h => by
    refine ⟨_, by rw [h]; rfl, ?_, hW⟩
    rw [h]
    exact ⟨World.ownsRow_nil _ _ _ _, Nat.le_refl _, fun g hg => by simp [Value.ownBlock] at hg⟩
  have hfl := fun (ha : allNm args = true) (h4 : b.length ≤ 400) (h10 : args.length ≤ 10) (W : World) (hW : Below w.heap.size w W) => specL3fill b args hB ha h4 h10 _ _ W (hb.below hW) (hn.below hW)
  obtain ⟨N, hN⟩ : ∃ N, args.length = N := ⟨_, rfl⟩
  have HNN := hide hn
  have hno1 : ∀ m, m < args.length → nameOk (args.getD m []) = false → fillR b args = none := fun m hm h => fillR_no (fun h2 => by rw [allNm_no hm h] at h2; cases h2.1)
  have hno2 : 400 < b.length ∨ 10 < args.length → fillR b args = none := fun h => fillR_no (fun h2 => by omega)
  have hyes : (∀ m, m < args.length → nameOk (args.getD m []) = true) → b.length ≤ 400 → args.length ≤ 10 → allNm args = true ∧ fillR b args = fillA b args (b.length + 1) 0 [] := fun h h1 h2 => ⟨allNm_yes h, fillR_yes ⟨allNm_yes h, h1, h2⟩⟩
  rw [hN] at hc1' HNN hno1 hno2 hyes hfl ⊢
  have HNL := hide hN
  have NOPE := hide nope
  have HFL := hide hfl
  have HNO1 := hide hno1
  have HNO2 := hide hno2
  have HYES := hide hyes
  have HBN := hide hA
  have HLL := hide hl
  clear hN hn hb nope hfl hno1 hno2 hyes hA hl
  go_enter Try.func45, Try.ntmps45
  go_wp2
  go_loopw [6] (fun i wr => ∃ j : Nat, j ≤ N ∧ i = .int .i64 j ∧ Hid (∀ m, m < j → nameOk (args.getD m []) = true) ∧ Below w.heap.size w wr) (fun i _ => N - (intOf i).toNat)
  case atStart => exact ⟨0, Nat.zero_le _, rfl, hide (fun m hm => by omega), Below.refl _ _⟩
  case round =>
    obtain ⟨j, hj, rfl, HNM, hbel⟩ := hrel
    have HB := hide hbel
    by_cases hlt : j < N
    · have hjn : j < args.length := by rw [HNL.out]; exact hlt
      obtain ⟨b2, off, u, hA', hblt, cu, ru⟩ := HNN.out.get hjn
      subst hA'
      have q1 := (hbel.cell (p := ⟨b2, off + j, none⟩) hblt).trans cu
      have rr1 := ru.below hbel
      have hmj : args.getD j [] ∈ args := by simp [List.getD, List.getElem?_eq_getElem hjn]
      have hcall := specNameOk (args.getD j []) (HBN.out _ hmj) u wr rr1 (Nat.le_trans (HLL.out _ hmj) (by omega))
      have k1 : (j : Int) < (N : Int) := by omega
      cases hk : nameOk (args.getD j []) with
      | false =>
        have HM1 := hide (HNO1.out j hlt hk)
        rw [hk] at hcall
        have HC := hide hcall
        clear hcall hk hbel cu ru rr1
        go_wp2_with fail
        refine HC.out.mono ?_
        rintro e w2 ⟨rfl, bb2⟩
        go_wp2_with fail
        go_ret2
        exact NOPE.out _ (HB.out.trans (bb2.mono HB.out.size)) HM1.out
      | true =>
        have HNM2 : Hid (∀ m, m < j + 1 → nameOk (args.getD m []) = true) := hide (fun m hm => by
          by_cases h : m = j
          · subst h; exact hk
          · exact HNM.out m (by omega))
        rw [hk] at hcall
        have HC := hide hcall
        clear hcall hk hbel cu ru rr1
        go_wp2_with fail
        refine HC.out.mono ?_
        rintro e w2 ⟨rfl, bb2⟩
        have HB2 := hide (HB.out.trans (bb2.mono HB.out.size))
        clear bb2
        go_wp2_with fail
        go_roundw
        case rel => exact ⟨j + 1, by omega, by go_num, HNM2, HB2.out⟩
        case measure => simp [intOf]; omega
    · obtain rfl : j = N := by omega
      by_cases h4 : b.length ≤ 400
      · by_cases h10 : j ≤ 10
        · obtain ⟨ha, hy⟩ := HYES.out HNM.out h4 h10
          have hcall := HFL.out ha h4 h10 wr hbel
          have HY := hide hy
          have HC := hide hcall
          have h4' : (b.length : Int) ≤ 400 := by omega
          have h10' : (j : Int) ≤ 10 := by omega
          clear hcall hbel hy
          go_wp2_with fail
          refine HC.out.mono ?_
          rintro e w2 ⟨v2, rfl, o2, bb2⟩
          have ho := hide (o2.wide HB.out.size (Nat.le_refl _) (Nat.le_refl _))
          have hb2 := hide (HB.out.trans (bb2.mono HB.out.size))
          clear o2 bb2
          go_wp2_with fail
          go_ret2
          rw [HY.out]
          exact ⟨_, rfl, ho.out, hb2.out⟩
        · have HM1 := hide (HNO2.out (.inr (by omega)))
          have h4' : (b.length : Int) ≤ 400 := by omega
          have h10' : ¬ (j : Int) ≤ 10 := by omega
          clear hbel
          go_wp2
          go_ret2
          exact NOPE.out _ HB.out HM1.out
      · have HM1 := hide (HNO2.out (.inl (by omega)))
        have h4' : ¬ (b.length : Int) ≤ 400 := by omega
        clear hbel
        go_wp2
        go_ret2
        exact NOPE.out _ HB.out HM1.out

end Go.Proofs.Ytchmppikpeeghaa
