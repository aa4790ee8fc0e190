/-
  The program's Fill, whole.
-/
import Derived.Test.YtchmppikpeeghaaFillI
namespace Go.Proofs.Ytchmppikpeeghaa
open Go.RowKit
set_option linter.unusedVariables false

theorem allNm_yes {args : List (List Int)} (h : ∀ m, m < args.length → nameOk (args.getD m []) = true) : allNm args = true := by
  rw [allNm, List.all_eq_true]
  intro x hx
  obtain ⟨m, hm, rfl⟩ := List.getElem_of_mem hx
  have := h m hm
  simpa [List.getD, List.getElem?_eq_getElem hm] using this
theorem allNm_no {args : List (List Int)} {m : Nat} (hm : m < args.length) (h : nameOk (args.getD m []) = false) : allNm args = false := by
  rw [Bool.eq_false_iff]
  intro ha
  have := List.all_eq_true.1 ha (args.getD m []) (by simp [List.getD, List.getElem?_eq_getElem hm])
  rw [h] at this
  cases this

set_option maxRecDepth 20000 in
set_option maxHeartbeats 800000 in
theorem implAllNames (ns : List (List Int)) (hB : BytN ns) (v : Value) (w : World) (hv : RdN w v ns) (hl : ∀ n ∈ ns, n.length ≤ 1048576) :
    Calls Try.prog 74 #[v] w fun e w' => e = .returned (.bool (allNm ns)) ∧ Below w.heap.size w w' := by
  obtain ⟨A, c, rfl, hc1, hc2⟩ := names_form hv
  obtain ⟨N, hN⟩ : ∃ N, ns.length = N := ⟨_, rfl⟩
  rw [hN] at hc1 hv ⊢
  unfold maxLen at hc2
  obtain ⟨R, hR⟩ : ∃ R, allNm ns = R := ⟨_, rfl⟩
  rw [hR]
  have HNL := hide hN
  have HNN := hide hv
  have HR := hide hR
  have HBN := hide hB
  have HLL := hide hl
  clear hN hv hR hB hl
  go_enter Try.func74, Try.ntmps74
  go_wp2
  go_loopw [7] (fun i wr => ∃ j : Nat, j ≤ N ∧ i = .int .i64 j ∧ Hid (∀ m, m < j → nameOk (ns.getD m []) = true) ∧ Below w.heap.size w wr) (fun i _ => N - (intOf i).toNat)
  case atStart => exact ⟨0, Nat.zero_le _, rfl, hide (fun m hm => by omega), Below.refl _ _⟩
  case round =>
    obtain ⟨j, hj, rfl, HNM, hbel⟩ := hrel
    have HB := hide hbel
    by_cases hlt : j < N
    · have hjn : j < ns.length := by rw [HNL.out]; exact hlt
      obtain ⟨b, off, u, hA', hblt, cu, ru⟩ := HNN.out.get hjn
      subst hA'
      have q1 := (hbel.cell (p := ⟨b, off + j, none⟩) hblt).trans cu
      have rr1 := ru.below hbel
      have hmj : ns.getD j [] ∈ ns := by simp [List.getD, List.getElem?_eq_getElem hjn]
      have hcall := implNameOk (ns.getD j []) (HBN.out _ hmj) u wr rr1 (Nat.le_trans (HLL.out _ hmj) (by omega))
      have k1 : (j : Int) < (N : Int) := by omega
      cases hk : nameOk (ns.getD j []) with
      | false =>
        have hm1 : R = false := by rw [← HR.out]; exact allNm_no hjn hk
        rw [hk] at hcall
        have HM1 := hide hm1
        have HC := hide hcall
        clear hm1 hcall hk hbel cu ru rr1
        go_wp2_with fail
        refine HC.out.mono ?_
        rintro e w2 ⟨rfl, b2⟩
        go_wp2_with fail
        go_ret
        exact ⟨ret_bool HM1.out.symm, HB.out.trans (b2.mono HB.out.size)⟩
      | true =>
        have HNM2 : Hid (∀ m, m < j + 1 → nameOk (ns.getD m []) = true) := hide (fun m hm => by
          by_cases h : m = j
          · subst h; exact hk
          · exact HNM.out m (by omega))
        rw [hk] at hcall
        have HC := hide hcall
        clear hcall hk hbel cu ru rr1
        go_wp2_with fail
        refine HC.out.mono ?_
        rintro e w2 ⟨rfl, b2⟩
        have HB2 := hide (HB.out.trans (b2.mono HB.out.size))
        clear b2
        go_wp2_with fail
        go_roundw
        case rel => exact ⟨j + 1, by omega, by go_num, HNM2, HB2.out⟩
        case measure => simp [intOf]; omega
    · obtain rfl : j = N := by omega
      have hm1 : R = true := by rw [← HR.out]; exact allNm_yes (fun m hm => HNM.out m (by rw [HNL.out] at hm; exact hm))
      have HM1 := hide hm1
      clear hm1 hbel
      go_wp2
      go_ret
      exact ⟨ret_bool HM1.out.symm, HB.out⟩

theorem fillR_no {b : List Int} {args : List (List Int)} (h : ¬ (allNm args = true ∧ b.length ≤ 400 ∧ args.length ≤ 10)) : fillR b args = none := by rw [fillR, if_neg h]
theorem fillR_yes {b : List Int} {args : List (List Int)} (h : allNm args = true ∧ b.length ≤ 400 ∧ args.length ≤ 10) : fillR b args = fillA b args (b.length + 1) 0 [] := by rw [fillR, if_pos h]

set_option maxRecDepth 20000 in
set_option maxHeartbeats 1600000 in
theorem implFill (b : List Int) (args : List (List Int)) (hB : Byt b) (hA : BytN args) (vb va : Value) (w : World) (hb : Rd w vb (bs b)) (hn : RdN w va args) (hl : ∀ n ∈ args, n.length ≤ 1048576) :
    Calls Try.prog 46 #[vb, va] w fun e w' => ∃ v, e = .returned (.tuple #[v, .bool (fillR b args).isSome]) ∧ Own 5 w.heap.size w'.heap.size w' v (bs ((fillR b args).getD [])) ∧ Below w.heap.size w w' := by
  obtain ⟨A', c', rfl, hc1', hc2'⟩ := names_form hn
  obtain ⟨A, c, rfl, hc1, hc2, _⟩ := id hb
  rw [bs_length] at hb hc1 ⊢
  unfold maxLen at hc2 hc2'
  obtain ⟨wa, hwa⟩ : ∃ wa, w.alloc (.cells #[.slice A' args.length c'] 23) = wa := ⟨_, rfl⟩
  have box : Boxed wa w.heap.size 23 (.slice A' args.length c') := by rw [← hwa]; exact Boxed.new w _ _
  have ba : Below w.heap.size w wa := by rw [← hwa]; exact (Below.refl _ _).alloc (Nat.le_refl _) _
  have x0 := box.cell
  have hcall := implAllNames args hA _ wa (hn.below ba) hl
  have nope : ∀ (W : World), Below w.heap.size w W → fillR b args = none → ∃ v, Ending.returned (.tuple #[.slice none 0 0, .bool false]) = .returned (.tuple #[v, .bool (fillR b args).isSome]) ∧ Own 5 w.heap.size W.heap.size W v (bs ((fillR b args).getD [])) ∧ Below w.heap.size w W := fun W hW h => by
    refine ⟨_, by rw [h]; rfl, ?_, hW⟩
    rw [h]
    exact ⟨World.ownsRow_nil _ _ _ _, Nat.le_refl _, fun g hg => by simp [Value.ownBlock] at hg⟩
  have NOPE := hide nope
  have BA := hide ba
  by_cases h4 : 400 < b.length
  · have hno := fillR_no (b := b) (args := args) (fun h => by omega)
    have HNO := hide hno
    clear hcall hno nope hb hn box ba
    go_enter Try.func46, Try.ntmps46
    go_wp2
    go_ret2
    exact NOPE.out _ BA.out HNO.out
  · by_cases h10 : 10 < args.length
    · have hno := fillR_no (b := b) (args := args) (fun h => by omega)
      have HNO := hide hno
      clear hcall hno nope hb hn box ba
      go_enter Try.func46, Try.ntmps46
      go_wp2
      go_ret2
      exact NOPE.out _ BA.out HNO.out
    · have h4' : (b.length : Int) ≤ 400 := by omega
      have h10' : (args.length : Int) ≤ 10 := by omega
      cases hk : allNm args with
      | false =>
        rw [hk] at hcall
        have hno := fillR_no (b := b) (args := args) (fun h => by rw [hk] at h; cases h.1)
        have HNO := hide hno
        have HC := hide hcall
        clear hcall hno nope hb hn box ba hk
        go_enter Try.func46, Try.ntmps46
        go_wp2_with fail
        refine HC.out.mono ?_
        rintro e w1 ⟨rfl, b1⟩
        have hb1 := hide (BA.out.trans (b1.mono BA.out.size))
        clear b1
        go_wp2_with fail
        go_ret2
        exact NOPE.out _ hb1.out HNO.out
      | true =>
        rw [hk] at hcall
        have hyes := fillR_yes (b := b) (args := args) ⟨hk, by omega, by omega⟩
        rw [hyes]
        have HC := hide hcall
        have hmk := fun (W : World) (hW : Below wa.heap.size wa W) => implMarks b args hB hk (by omega) (by omega) _ _ w.heap.size W ((hW.block _ box.lt).trans box) (hb.below (ba.trans (hW.mono ba.size))) (hn.below (ba.trans (hW.mono ba.size)))
        have HMK := hide hmk
        clear hcall nope NOPE hb hn box ba hk hyes hmk
        go_enter Try.func46, Try.ntmps46
        go_wp2_with fail
        refine HC.out.mono ?_
        rintro e w1 ⟨rfl, b1⟩
        have hb1 := hide (BA.out.trans (b1.mono BA.out.size))
        have HM1 := hide (HMK.out w1 b1)
        clear b1
        go_wp2_with fail
        refine HM1.out.mono ?_
        rintro e w2 ⟨v2, rfl, o2, b2⟩
        have ho := hide (o2.wide hb1.out.size (Nat.le_refl _) (Nat.le_refl _))
        have hb2 := hide (hb1.out.trans (b2.mono hb1.out.size))
        clear o2 b2
        go_wp2_with fail
        go_ret2
        exact ⟨_, rfl, ho.out, hb2.out⟩

end Go.Proofs.Ytchmppikpeeghaa
