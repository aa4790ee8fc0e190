
/-
  OutName: the model and the program.
-/
import Derived.Test.YtnloknhcdlannaaDoorName
import Derived.Test.YtnloknhcdlannaaDoorText
import Derived.Test.YtnloknhcdlannaaDoorTextX
import Derived.Test.YtnloknhcdlannaaDoorNameQ
import Derived.Test.YtnloknhcdlannaaDoorNameOkI
import Derived.Test.YtnloknhcdlannaaDoorEntryQ
import Derived.WalkSpells
namespace Go.Proofs.YtnloknhcdlannaaDoor
open Go.RowKit
set_option linter.unusedVariables false

def outNm (a b : List Int) : List Int := if nameOk a && entryOk b then nameOf 111 (putText a b) else []
theorem nameOk_len {l : List Int} (h : nameOk l = true) : l.length = 16 := by
  rw [nameOk, Bool.and_eq_true, decide_eq_true_eq] at h
  exact h.1
theorem entryOk_len {l : List Int} (h : entryOk l = true) : l.length ≤ 8 := by
  rw [entryOk, Bool.and_eq_true, decide_eq_true_eq] at h
  omega
theorem putText_small {a b : List Int} (ha : a.length = 16) (hb : b.length ≤ 8) : (putText a b).length ≤ 90000 := by
  have := putNum_len a b.length
  rw [putText]
  split
  · omega
  · rw [List.length_append]; omega
theorem outNm_some {a b : List Int} (ha : nameOk a = true) (hb : entryOk b = true) : outNm a b = b32 ((shaL (111 :: putText a b)).take 10) := by
  have := putText_small (nameOk_len ha) (entryOk_len hb)
  rw [outNm, ha, hb, Bool.and_self, if_pos rfl, nameOf, if_neg (by omega)]
theorem outNm_len {a b : List Int} : (outNm a b).length ≤ 16 := by
  cases ha : nameOk a <;> cases hb : entryOk b
  all_goals try (rw [outNm, ha, hb]; simp; done)
  rw [outNm_some ha hb, b32_len, sha10_len]
  omega
theorem outNm_pos {a b : List Int} (ha : nameOk a = true) (hb : entryOk b = true) : (outNm a b).length = 16 := by
  rw [outNm_some ha hb, b32_len, sha10_len]

set_option maxRecDepth 20000 in
set_option maxHeartbeats 800000 in
theorem specOut (a b : List Int) (hA : Byt a) (hB : Byt b) (ha : nameOk a = true) (hb : entryOk b = true) (va vb : Value) (w : World) (h0 : Rd w va (bs a)) (h1 : Rd w vb (bs b)) :
    Calls Tryd.prog 36 #[va, vb] w fun e w' => ∃ v', e = .returned v' ∧ Own 5 w.heap.size w'.heap.size w' v' (bs (outNm a b)) ∧ Below w.heap.size w w' := by
  obtain ⟨i0, hi0, hz0, hz1, hz2⟩ := info_parts u8info
  have hla := nameOk_len ha
  have hpl := putText_small hla (entryOk_len hb)
  rw [outNm_some ha hb]
  have hPB := putText_byt hA hB
  obtain ⟨A0, c0, hV0, _, hm0, _⟩ := id h0
  obtain ⟨A1, c1, hV1, _, hm1, _⟩ := id h1
  rw [bs_length] at *
  unfold maxLen at hm0 hm1
  subst hV0 hV1
  have HV := hide h0
  have HU := hide h1
  have HPL := hide hpl
  have HLA := hide hla
  clear h0 h1 ha hb hpl hla
  go_enter Tryd.func36, Tryd.ntmps36
  go_wp2_with (first
    | (at_builtin; refine wpList_app _ rfl (.tmp 5) (.tmp 6) _ rfl w.heap.size 5 i0 _ 1 Tryd.underlying28 hi0 hz0 hz1 hz2 rfl _ 0 [] rfl (own_lit0 w _) _ (bs a) rfl (HV.out.alloc _) (bs_one a) (by rw [bs_length, HLA.out]; simp [maxLen]) (by rw [bs_length, HLA.out]; simp) (by simp) ?_; intro v1 w1 own1 gr1; have b1 := below_app0 gr1; have r1 : Rd w1 v1 (bs a) := (Own.of (own_cells own1 (List.nil_append _)) (by simp)).rd; have HC := hide (specPutText a v1 b _ w1 r1 (HU.out.below b1) (by rw [HLA.out]; omega)); clear own1 gr1)
    | (go_at_call 46; (with_reducible refine HC.out.mono ?_); rintro e w2 ⟨v2, rfl, o2, b2⟩; have HN := hide (specName 111 (by omega) _ hPB v2 w2 o2.rd HPL.out))
    | (go_at_call 21; (with_reducible refine HN.out.mono ?_); rintro e w3 ⟨v3, rfl, o3, b3⟩))
  go_ret
  have c2' : Below w.heap.size w w2 := b1.trans (b2.mono b1.size)
  exact ⟨_, rfl, o3.wide c2'.size (Nat.le_refl _) (Nat.le_refl _), c2'.trans (b3.mono c2'.size)⟩

set_option maxRecDepth 20000 in
set_option maxHeartbeats 800000 in
theorem specOutName (a : List Int) (hA : Byt a) (va : Value) (b : List Int) (hB : Byt b) (vb : Value) (w : World) (h0 : Rd w va (bs a)) (h1 : Rd w vb (bs b)) (hla : a.length ≤ 1048576) :
    Calls Tryd.prog 14 #[va, vb] w fun e w' => ∃ v', e = .returned (.tuple #[v', .bool (nameOk a && entryOk b)]) ∧ Own 5 w.heap.size w'.heap.size w' v' (bs (outNm a b)) ∧ Below w.heap.size w w' := by
  have HNO := hide (specNameQ a hA va w h0 (by omega))
  have HEO := hide (specEntryQ b hB vb w h1)
  have HOU := hide (fun ha hb => specOut a b hA hB ha hb va vb w h0 h1)
  have hno : (nameOk a && entryOk b) = false → outNm a b = [] := fun h => by rw [outNm, h]; rfl
  have HNONE := hide hno
  generalize hx : nameOk a = X at *
  generalize hy : entryOk b = Y at *
  clear h0 h1 hno hx hy
  cases X <;> cases Y
  · have HR := hide (HNONE.out rfl)
    go_enter Tryd.func14, Tryd.ntmps14
    go_wp2_with (go_at_call 34; (with_reducible refine HNO.out.mono ?_); rintro e w' ⟨rfl, rfl⟩)
    go_ret2
    exact ⟨_, rfl, by rw [HR.out]; exact Own.of (World.ownsRow_nil _ _ _ _) rfl, Below.refl _ _⟩
  · have HR := hide (HNONE.out rfl)
    go_enter Tryd.func14, Tryd.ntmps14
    go_wp2_with (go_at_call 34; (with_reducible refine HNO.out.mono ?_); rintro e w' ⟨rfl, rfl⟩)
    go_ret2
    exact ⟨_, rfl, by rw [HR.out]; exact Own.of (World.ownsRow_nil _ _ _ _) rfl, Below.refl _ _⟩
  · have HR := hide (HNONE.out rfl)
    go_enter Tryd.func14, Tryd.ntmps14
    go_wp2_with (first
      | (go_at_call 34; (with_reducible refine HNO.out.mono ?_); rintro e w' ⟨rfl, rfl⟩)
      | (go_at_call 35; (with_reducible refine HEO.out.mono ?_); rintro e w' ⟨rfl, rfl⟩))
    go_ret2
    exact ⟨_, rfl, by rw [HR.out]; exact Own.of (World.ownsRow_nil _ _ _ _) rfl, Below.refl _ _⟩
  · have HO := hide (HOU.out (by trivial) (by trivial))
    go_enter Tryd.func14, Tryd.ntmps14
    go_wp2_with (first
      | (go_at_call 34; (with_reducible refine HNO.out.mono ?_); rintro e w' ⟨rfl, rfl⟩)
      | (go_at_call 35; (with_reducible refine HEO.out.mono ?_); rintro e w' ⟨rfl, rfl⟩)
      | (go_at_call 36; (with_reducible refine HO.out.mono ?_); rintro e w1 ⟨v1, rfl, o1, b1⟩; have ho1 := o1; obtain ⟨A9, c9, rfl, -, -⟩ := own_slice ho1.1; have HO1 := hide o1; have HB1 := hide b1; clear o1 b1 ho1))
    go_ret2
    exact ⟨_, rfl, HO1.out, HB1.out⟩

set_option maxRecDepth 20000 in
set_option maxHeartbeats 800000 in
theorem implOutLow (a : List Int) (hA : Byt a) (va : Value) (b : List Int) (hB : Byt b) (vb : Value) (w : World) (h0 : Rd w va (bs a)) (h1 : Rd w vb (bs b)) (hla : a.length ≤ 1048576) (hT : Tab w) :
    Calls Tryd.prog 37 #[va, vb] w fun e w' => ∃ A n c, e = .returned (.slice A n c) ∧ Hid (A.isSome = (nameOk a && entryOk b)) ∧ Own 5 w.heap.size w'.heap.size w' (.slice A n c) (bs (outNm a b)) ∧ Below w.heap.size w w' := by
  have HNO := hide (implNameOk a hA va w h0 (by omega))
  have HEO := hide (fun W (hb : Below w.heap.size w W) => implEntryQ b hB vb W (h1.below hb))
  have HPT := hide (fun W (hb : Below w.heap.size w W) => implPutText a va b vb W (h0.below hb) (h1.below hb) (by omega))
  have hno : (nameOk a && entryOk b) = false → outNm a b = [] := fun h => by rw [outNm, h]; rfl
  have hyes : nameOk a = true → entryOk b = true → outNm a b = nameOf 111 (putText a b) ∧ (outNm a b).length = 16 := fun ha hb => ⟨by rw [outNm, ha, hb]; rfl, outNm_pos ha hb⟩
  have HNA := hide (fun v W (h : Rd W v (bs (putText a b))) (hb : Below w.heap.size w W) => implNameOf 111 (by omega) (putText a b) (putText_byt hA hB) v W h (hT.step hb))
  have HNONE := hide hno
  have HYES := hide hyes
  generalize hx : nameOk a = X at *
  generalize hy : entryOk b = Y at *
  clear h0 h1 hno hyes hx hy hT
  cases X <;> cases Y
  · have HR := hide (HNONE.out rfl)
    go_enter Tryd.func37, Tryd.ntmps37
    go_wp2_with (go_at_call 57; (with_reducible refine HNO.out.mono ?_); rintro e w1 ⟨rfl, b1⟩; have HB1 := hide b1; clear b1)
    go_ret
    exact ⟨_, _, _, rfl, hide rfl, by rw [HR.out]; exact Own.of (World.ownsRow_nil _ _ _ _) rfl, HB1.out⟩
  · have HR := hide (HNONE.out rfl)
    go_enter Tryd.func37, Tryd.ntmps37
    go_wp2_with (go_at_call 57; (with_reducible refine HNO.out.mono ?_); rintro e w1 ⟨rfl, b1⟩; have HB1 := hide b1; clear b1)
    go_ret
    exact ⟨_, _, _, rfl, hide rfl, by rw [HR.out]; exact Own.of (World.ownsRow_nil _ _ _ _) rfl, HB1.out⟩
  · have HR := hide (HNONE.out rfl)
    go_enter Tryd.func37, Tryd.ntmps37
    go_wp2_with (first
      | (go_at_call 57; (with_reducible refine HNO.out.mono ?_); rintro e w1 ⟨rfl, b1⟩; have HB1 := hide b1; clear b1)
      | (go_at_call 58; refine (HEO.out _ HB1.out).mono ?_; rintro e w' ⟨rfl, rfl⟩))
    go_ret
    exact ⟨_, _, _, rfl, hide rfl, by rw [HR.out]; exact Own.of (World.ownsRow_nil _ _ _ _) rfl, HB1.out⟩
  · have HR := hide (HYES.out (by trivial) (by trivial))
    go_enter Tryd.func37, Tryd.ntmps37
    go_wp2_with (first
      | (go_at_call 57; (with_reducible refine HNO.out.mono ?_); rintro e w1 ⟨rfl, b1⟩; have HB1 := hide b1; clear b1)
      | (go_at_call 58; refine (HEO.out _ HB1.out).mono ?_; rintro e w' ⟨rfl, rfl⟩)
      | (go_at_call 59; refine (HPT.out _ HB1.out).mono ?_; rintro e w2 ⟨v2, rfl, o2, b2⟩; have HB2 := hide (HB1.out.trans (b2.mono HB1.out.size)); have HRD := hide o2.rd; clear o2 b2)
      | (go_at_call 27; refine (HNA.out _ _ HRD.out HB2.out).mono ?_; rintro e w3 ⟨v3, rfl, o3, b3⟩; have ho3 := o3; obtain ⟨A9, c9, rfl, -, -⟩ := own_slice ho3.1; have HO3 := hide (o3.wide HB2.out.size (Nat.le_refl _) (Nat.le_refl _)); have HB3 := hide (HB2.out.trans (b3.mono HB2.out.size)); clear o3 b3 ho3))
    go_ret
    have ho := HO3.out
    obtain ⟨e1, e2⟩ := HR.out
    have hlen : 0 < (bs (nameOf 111 (putText a b))).length := by rw [bs_length, ← e1, e2]; omega
    obtain ⟨g, hg, -, -⟩ := own_form ho.1 hlen
    exact ⟨_, _, _, rfl, hide (by rw [hg]; rfl), by rw [e1]; exact ho, HB3.out⟩

set_option maxRecDepth 20000 in
set_option maxHeartbeats 800000 in
theorem implOutName (a : List Int) (hA : Byt a) (va : Value) (b : List Int) (hB : Byt b) (vb : Value) (w : World) (h0 : Rd w va (bs a)) (h1 : Rd w vb (bs b)) (hla : a.length ≤ 1048576) (hT : Tab w) :
    Calls Tryd.prog 16 #[va, vb] w fun e w' => ∃ v', e = .returned (.tuple #[v', .bool (nameOk a && entryOk b)]) ∧ Own 5 w.heap.size w'.heap.size w' v' (bs (outNm a b)) ∧ Below w.heap.size w w' := by
  have HL := hide (implOutLow a hA va b hB vb w h0 h1 hla hT)
  have qT : ∀ (w : World) (a : Option Addr) (n c n' c' : Nat), (binOp .neq 28 (.slice a n c) (.slice none n' c')).run Tryd.prog w = .ok (.bool (!a.isNone)) w := fun w a n c n' c' => run_neq_slice_nil_any w _ _ a n c n' c' Tryd.underlying28
  clear h0 h1 hT
  go_enter Tryd.func16, Tryd.ntmps16
  go_wp2_with fail
  refine HL.out.mono ?_
  rintro e w1 ⟨A, n, c, rfl, hs, o1, b1⟩
  have HO := hide o1
  have HB := hide b1
  clear o1 b1
  go_wp2_with fail
  go_ret2
  exact ⟨_, by rw [hs.out]; rfl, HO.out, HB.out⟩

end Go.Proofs.YtnloknhcdlannaaDoor
