/-
  The model's TreeData, whole.
-/
import Derived.Test.YtchmppikpeeghaaDataS
namespace Go.Proofs.Ytchmppikpeeghaa
open Go.RowKit
set_option linter.unusedVariables false

theorem T.dats_bulk (ks : List T) (h : ∀ t ∈ ks, t.dat.length ≤ t.bulk) : (T.dats ks).length ≤ T.bulks ks := by
  induction ks with
  | nil => simp [T.dats]
  | cons t r ih =>
    rw [T.dats, T.bulks, List.length_append]
    have h1 := h t (List.mem_cons_self ..)
    have h2 := ih fun t ht => h t (List.mem_cons_of_mem _ ht)
    omega
theorem T.dat_bulk : ∀ t : T, t.dat.length ≤ t.bulk := by
  intro t
  induction t using T.ind with
  | h k d ns ks ih =>
    have := T.dats_bulk ks ih
    rw [T.dat, T.bulk, List.length_append]
    omega
/-- What TreeData answers. -/
def datOf (t : T) : List Int := if treeOk t then t.dat else []

set_option maxRecDepth 20000 in
set_option maxHeartbeats 1600000 in
theorem specTreeData (t : T) (hB : t.Byts) (hbk : t.bulk ≤ 1048576) (q : Q) (w : World) (hq : TIn w t q) :
    Calls Try.prog 25 #[q.val] w fun e w' => ∃ v, e = .returned v ∧ Own 5 w.heap.size w'.heap.size w' v (bs (datOf t)) ∧ Below w.heap.size w w' := by
  obtain ⟨wa, hwa, box, ba, hz⟩ := boxed w q 31
  have x0 := box.c0
  have x1 := box.c1
  have x2 := box.c2
  have x3 := box.c3
  have hok := specTreeOk t hB q wa (hq.below ba)
  have HBOX := hide box
  cases hv : treeOk t with
  | false =>
    have hS : datOf t = [] := by rw [datOf, hv]; rfl
    rw [hv] at hok
    have HS := hide hS
    have HOK := hide hok
    clear hok hS hv hB hq box
    go_enter Try.func25, Try.ntmps25
    go_wp2_with fail
    refine HOK.out.mono ?_
    rintro e w1 ⟨rfl, b1⟩
    go_wp2
    go_ret
    have hb := ba.trans (b1.mono ba.size)
    refine ⟨_, rfl, ?_, hb⟩
    rw [HS.out]
    exact ⟨World.ownsRow_nil _ _ _ _, Nat.le_refl _, fun g hg => by simp [Value.ownBlock] at hg⟩
  | true =>
    have hS : datOf t = t.dat := by rw [datOf, hv]; rfl
    rw [hv] at hok
    have hdb := t.dat_bulk
    have hcall := fun w1 (b1 : Below w.heap.size w w1) => specData t [] (.slice none 0 0) q w.heap.size w1 w (World.ownsRow_nil _ _ _ _) rfl b1 hq (by simp; omega)
    have HS := hide hS
    have HOK := hide hok
    have HC := hide hcall
    clear hok hS hv hB hq box hcall
    go_enter Try.func25, Try.ntmps25
    go_wp2_with fail
    refine HOK.out.mono ?_
    rintro e w1 ⟨rfl, b1⟩
    have box1 := HBOX.out.step b1
    have d1 := ba.trans (b1.mono ba.size)
    have x0 := box1.c0
    have x1 := box1.c1
    have x2 := box1.c2
    have x3 := box1.c3
    go_wp2_with fail
    refine (HC.out w1 d1).mono ?_
    rintro e w2 ⟨v2, rfl, o2, h2⟩
    have hf : Own 5 w.heap.size w2.heap.size w2 v2 (bs (datOf t)) := by
      rw [HS.out]
      rw [List.nil_append] at o2
      exact Own.of o2 (by rw [bs_length])
    have HF := hide hf
    have HB := hide (d1.trans h2.below)
    clear x0 x1 x2 x3 box1 d1 b1 hf ba o2 h2 hdb
    go_wp2
    go_ret
    exact ⟨_, rfl, HF.out, HB.out⟩

end Go.Proofs.Ytchmppikpeeghaa
