/-
  Rewrite, both.
-/
import Derived.Test.YtchmppikpeeghaaDoorRewI
import Derived.Test.YtchmppikpeeghaaDoorRewS
import Derived.Test.YtchmppikpeeghaaDoorNameOkI
import Derived.Test.YtchmppikpeeghaaDoorNameOkS
namespace Go.Proofs.YtchmppikpeeghaaDoor
open Go.RowKit
set_option linter.unusedVariables false

def rewOk (f t : List Int) : Bool := nameOk f && nameOk t
def rewR (b f t : List Int) : List Int := if rewOk f t then rewL b f t else []
theorem nameOk16 {l : List Int} (h : nameOk l = true) : l.length = 16 := by
  rw [nameOk, Bool.and_eq_true, decide_eq_true_eq] at h
  exact h.1

theorem rwF_len {f t : List Int} (hft : t.length = f.length) : ∀ (n : Nat) (l : List Int), (rwF f t n l).length = l.length
  | 0, l => rfl
  | n + 1, l => by
    by_cases h : f.length ≤ l.length
    · by_cases h2 : l.take f.length = f
      · rw [rwF_hit h h2, List.length_append, rwF_len hft n, List.length_drop]; omega
      · rw [rwF_miss h h2, List.length_append, rwF_len hft n, List.length_drop, List.length_take]; omega
    · rw [rwF_end h]
theorem rewR_len (b f t : List Int) : (rewR b f t).length ≤ b.length := by
  unfold rewR
  split
  · rename_i h
    rw [rewOk, Bool.and_eq_true] at h
    rw [rewL, rwF_len (by rw [nameOk16 h.1, nameOk16 h.2])]
    exact Nat.le_refl _
  · simp

set_option maxHeartbeats 400000 in
theorem implReplaceAll (b f t : List Int) (hB : Byt b) (hF : Byt f) (hft : t.length = f.length) (h2 : 2 ≤ f.length) (vb vf vt : Value) (w : World) (hb : Rd w vb (bs b)) (hf : Rd w vf (bs f)) (ht : Rd w vt (bs t)) (hv : NilOk vb) (hbl : b.length ≤ 4000000000) (hfl : f.length ≤ 1048576) (hm : MaxL w) :
    Calls Tryd.prog 13 #[vb, vf, vt] w fun e w' => ∃ v', e = .returned v' ∧ w'.ownsRow w.heap.size 5 1 v' b.length (bs (rewL b f t)) ∧ Below w.heap.size w w' := by
  have h := implReplace b f t hB hF hft h2 vb vf vt w hb hf ht hv hbl hfl hm
  clear hb hf ht
  go_enter Tryd.func13, Tryd.ntmps13
  go_wp2_with fail
  refine h.mono ?_
  rintro e w1 ⟨v1, rfl, o1, b1⟩
  go_wp2_with fail
  go_ret
  exact ⟨_, rfl, o1, b1⟩

set_option maxHeartbeats 800000 in
theorem implRewrite (b f t : List Int) (hB : Byt b) (hF : Byt f) (hT : Byt t) (vb vf vt : Value) (w : World) (hb : Rd w vb (bs b)) (hf : Rd w vf (bs f)) (ht : Rd w vt (bs t)) (hv : NilOk vb) (hm : MaxL w) (hbl : b.length ≤ 1048576) (hfl : f.length ≤ 1048576) (htl : t.length ≤ 1048576) :
    Calls Tryd.prog 6 #[vb, vf, vt] w fun e w' => ∃ v, e = .returned (.tuple #[v, .bool (rewOk f t)]) ∧ Own 5 w.heap.size w'.heap.size w' v (bs (rewR b f t)) ∧ Below w.heap.size w w' := by
  have h1 := implNameOk f hF vf w hf (by omega)
  have h2 := fun (W : World) (hW : Below w.heap.size w W) => implNameOk t hT vt W (ht.below hW) (by omega)
  have nope : ∀ (W : World), Below w.heap.size w W → rewOk f t = false → ∃ v, Ending.returned (.tuple #[.slice none 0 0, .bool false]) = .returned (.tuple #[v, .bool (rewOk f t)]) ∧ Own 5 w.heap.size W.heap.size W v (bs (rewR b f t)) ∧ Below w.heap.size w W := fun W hW h => by
    refine ⟨_, by rw [h], ?_, hW⟩
    rw [rewR, h]
    exact ⟨World.ownsRow_nil _ _ _ _, Nat.le_refl _, fun g hg => by simp [Value.ownBlock] at hg⟩
  have NOPE := hide nope
  cases hk : nameOk f with
  | false =>
    have hR : rewOk f t = false := by rw [rewOk, hk]; rfl
    rw [hk] at h1
    have H1 := hide h1
    have HR := hide hR
    clear h1 h2 hk hb hf ht nope hR
    go_enter Tryd.func6, Tryd.ntmps6
    go_wp2_with fail
    refine H1.out.mono ?_
    rintro e w1 ⟨rfl, b1⟩
    go_wp2_with fail
    go_ret2
    exact NOPE.out w1 b1 HR.out
  | true =>
    rw [hk] at h1
    cases hk2 : nameOk t with
    | false =>
      have hR : rewOk f t = false := by rw [rewOk, hk, hk2]; rfl
      rw [hk2] at h2
      have H1 := hide h1
      have H2 := hide h2
      have HR := hide hR
      clear h1 h2 hk hk2 hb hf ht nope hR
      go_enter Tryd.func6, Tryd.ntmps6
      go_wp2_with fail
      refine H1.out.mono ?_
      rintro e w1 ⟨rfl, b1⟩
      go_wp2_with fail
      refine (H2.out w1 b1).mono ?_
      rintro e w2 ⟨rfl, b2⟩
      go_wp2_with fail
      go_ret2
      exact NOPE.out w2 (b1.trans (b2.mono b1.size)) HR.out
    | true =>
      have hf16 := nameOk16 hk
      have ht16 := nameOk16 hk2
      have hR : rewOk f t = true := by rw [rewOk, hk, hk2]; rfl
      rw [hk2] at h2
      have h3 := fun (W : World) (hW : Below w.heap.size w W) => implReplaceAll b f t hB hF (by omega) (by omega) vb vf vt W (hb.below hW) (hf.below hW) (ht.below hW) hv (by omega) hfl (hm.step hW)
      have H1 := hide h1
      have H2 := hide h2
      have H3 := hide h3
      have HR := hide hR
      clear h1 h2 h3 hk hk2 hb hf ht nope hR hf16 ht16
      go_enter Tryd.func6, Tryd.ntmps6
      go_wp2_with fail
      refine H1.out.mono ?_
      rintro e w1 ⟨rfl, b1⟩
      go_wp2_with fail
      refine (H2.out w1 b1).mono ?_
      rintro e w2 ⟨rfl, b2⟩
      have B2 := hide (b1.trans (b2.mono b1.size))
      clear b1 b2
      go_wp2_with fail
      refine (H3.out w2 B2.out).mono ?_
      rintro e w3 ⟨v3, rfl, o3, b3⟩
      have O3 : Hid (Own 5 w.heap.size w3.heap.size w3 v3 (bs (rewR b f t))) := hide (by
        rw [rewR, HR.out, if_pos rfl]
        obtain ⟨hx, h'⟩ := o3
        have h4 : w3.ownsRow w.heap.size 5 1 v3 b.length (bs (rewL b f t)) := ⟨hx, by
          rcases h' with hn | ⟨g, cap, cur, rfl, hbg, rest⟩
          · exact .inl hn
          · exact .inr ⟨g, cap, cur, rfl, Nat.le_trans B2.out.size hbg, rest⟩⟩
        exact Own.of h4 (by omega))
      have B3 := hide (B2.out.trans (b3.mono B2.out.size))
      clear o3 b3
      go_wp2_with fail
      go_ret2
      exact ⟨_, by rw [HR.out]; rfl, O3.out, B3.out⟩

set_option maxHeartbeats 800000 in
theorem specRewrite (b f t : List Int) (hB : Byt b) (hF : Byt f) (hT : Byt t) (vb vf vt : Value) (w : World) (hb : Rd w vb (bs b)) (hf : Rd w vf (bs f)) (ht : Rd w vt (bs t)) (hbl : b.length ≤ 1048576) (hfl : f.length ≤ 1048576) (htl : t.length ≤ 1048576) :
    Calls Tryd.prog 4 #[vb, vf, vt] w fun e w' => ∃ v, e = .returned (.tuple #[v, .bool (rewOk f t)]) ∧ Own 5 w.heap.size w'.heap.size w' v (bs (rewR b f t)) ∧ Below w.heap.size w w' := by
  have h1 := specNameOk f hF vf w hf (by omega)
  have h2 := fun (W : World) (hW : Below w.heap.size w W) => specNameOk t hT vt W (ht.below hW) (by omega)
  have nope : ∀ (W : World), Below w.heap.size w W → rewOk f t = false → ∃ v, Ending.returned (.tuple #[.slice none 0 0, .bool false]) = .returned (.tuple #[v, .bool (rewOk f t)]) ∧ Own 5 w.heap.size W.heap.size W v (bs (rewR b f t)) ∧ Below w.heap.size w W := fun W hW h => by
    refine ⟨_, by rw [h], ?_, hW⟩
    rw [rewR, h]
    exact ⟨World.ownsRow_nil _ _ _ _, Nat.le_refl _, fun g hg => by simp [Value.ownBlock] at hg⟩
  have NOPE := hide nope
  cases hk : nameOk f with
  | false =>
    have hR : rewOk f t = false := by rw [rewOk, hk]; rfl
    rw [hk] at h1
    have H1 := hide h1
    have HR := hide hR
    clear h1 h2 hk hb hf ht nope hR
    go_enter Tryd.func4, Tryd.ntmps4
    go_wp2_with fail
    refine H1.out.mono ?_
    rintro e w1 ⟨rfl, b1⟩
    go_wp2_with fail
    go_ret2
    exact NOPE.out w1 b1 HR.out
  | true =>
    rw [hk] at h1
    cases hk2 : nameOk t with
    | false =>
      have hR : rewOk f t = false := by rw [rewOk, hk, hk2]; rfl
      rw [hk2] at h2
      have H1 := hide h1
      have H2 := hide h2
      have HR := hide hR
      clear h1 h2 hk hk2 hb hf ht nope hR
      go_enter Tryd.func4, Tryd.ntmps4
      go_wp2_with fail
      refine H1.out.mono ?_
      rintro e w1 ⟨rfl, b1⟩
      go_wp2_with fail
      refine (H2.out w1 b1).mono ?_
      rintro e w2 ⟨rfl, b2⟩
      go_wp2_with fail
      go_ret2
      exact NOPE.out w2 (b1.trans (b2.mono b1.size)) HR.out
    | true =>
      have hf16 := nameOk16 hk
      have ht16 := nameOk16 hk2
      have hR : rewOk f t = true := by rw [rewOk, hk, hk2]; rfl
      rw [hk2] at h2
      have h3 := fun (W : World) (hW : Below w.heap.size w W) => l3rew b f t hB hF (by omega) (by omega) vb vf vt W (hb.below hW) (hf.below hW) (ht.below hW) (by omega) (by omega)
      have H1 := hide h1
      have H2 := hide h2
      have H3 := hide h3
      have HR := hide hR
      clear h1 h2 h3 hk hk2 hb hf ht nope hR hf16 ht16
      go_enter Tryd.func4, Tryd.ntmps4
      go_wp2_with fail
      refine H1.out.mono ?_
      rintro e w1 ⟨rfl, b1⟩
      go_wp2_with fail
      refine (H2.out w1 b1).mono ?_
      rintro e w2 ⟨rfl, b2⟩
      have B2 := hide (b1.trans (b2.mono b1.size))
      clear b1 b2
      go_wp2_with fail
      refine (H3.out w2 B2.out).mono ?_
      rintro e w3 ⟨v3, rfl, o3, b3⟩
      have O3 : Hid (Own 5 w.heap.size w3.heap.size w3 v3 (bs (rewR b f t))) := hide (by
        rw [rewR, HR.out, if_pos rfl]
        obtain ⟨hx, h'⟩ := o3
        have h4 : w3.ownsRow w.heap.size 5 1 v3 b.length (bs (rewL b f t)) := ⟨hx, by
          rcases h' with hn | ⟨g, cap, cur, rfl, hbg, rest⟩
          · exact .inl hn
          · exact .inr ⟨g, cap, cur, rfl, Nat.le_trans B2.out.size hbg, rest⟩⟩
        exact Own.of h4 (by omega))
      have B3 := hide (B2.out.trans (b3.mono B2.out.size))
      clear o3 b3
      go_wp2_with fail
      go_ret2
      exact ⟨_, by rw [HR.out]; rfl, O3.out, B3.out⟩

end Go.Proofs.YtchmppikpeeghaaDoor
