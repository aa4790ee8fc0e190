/-
  The encoding of a tree, in plain numbers.
-/
import Derived.Test.YtchmppikpeeghaaText
import Derived.Test.YtchmppikpeeghaaDatC
namespace Go.Proofs.Ytchmppikpeeghaa
open Go.RowKit
set_option linter.unusedVariables false

/-- A text with its length ahead. -/
def txt (t : List Int) : List Int := vint t.length ++ t
theorem putText_txt {l t : List Int} (h : t.length ≤ 400) : putText l t = l ++ txt t := by
  rw [putText, if_neg (by omega), putNum, if_neg (by omega), Int.toNat_natCast, List.append_assoc]
  rfl
theorem txt_len {t : List Int} (h : t.length ≤ 2147483647) : (txt t).length ≤ t.length + 5 := by
  have := vint_len t.length h
  rw [txt, List.length_append]
  omega
theorem txt_byt {t : List Int} (h : Byt t) : Byt (txt t) := (vint_byt _).app h

mutual
def T.enc : T → List Int
  | .node k d ns ks => k :: (if k = 2 then (ks.length : Int) :: T.encs ks ns else txt d)
def T.encs : List T → List (List Int) → List Int
  | [], _ => []
  | t :: ts, ns => txt (ns.headD []) ++ t.enc ++ T.encs ts ns.tail
end
theorem T.encs_next {ks : List T} {j : Nat} (h : j < ks.length) (ns : List (List Int)) : T.encs (ks.take (j + 1)) ns = T.encs (ks.take j) ns ++ txt (ns.getD j []) ++ (ks[j]).enc := by
  induction ks generalizing j ns with
  | nil => simp at h
  | cons t r ih =>
    cases j with
    | zero => cases ns <;> simp [T.encs]
    | succ j =>
      have h2 := ih (j := j) (by simpa using h) ns.tail
      have h3 : ns.tail.getD j [] = ns.getD (j + 1) [] := by cases ns <;> simp [List.getD]
      rw [List.take_succ_cons, T.encs, h2, h3, List.take_succ_cons, T.encs]
      simp only [List.append_assoc, List.getElem_cons_succ]
theorem T.encs_take (ks : List T) (j : Nat) (ns : List (List Int)) : (T.encs (ks.take j) ns).length ≤ (T.encs ks ns).length := by
  induction ks generalizing j ns with
  | nil => simp [T.encs]
  | cons t r ih =>
    cases j with
    | zero => simp [T.encs]
    | succ j =>
      have := ih j ns.tail
      simp only [List.take_succ_cons, T.encs, List.length_append]
      omega
theorem sumLen_head (ns : List (List Int)) : (ns.headD []).length + sumLen ns.tail = sumLen ns := by
  cases ns <;> simp [sumLen]
theorem T.encs_room (ks : List T) (h : ∀ t ∈ ks, t.bulk ≤ 1048576 → t.enc.length + 5 ≤ t.bulk + 11 * t.size) (ns : List (List Int)) (hn : sumLen ns ≤ 1048576) (hk : T.bulks ks ≤ 1048576) : (T.encs ks ns).length ≤ sumLen ns + T.bulks ks + 11 * T.sizes ks := by
  induction ks generalizing ns with
  | nil => simp [T.encs]
  | cons t r ih =>
    have hh := sumLen_head ns
    rw [T.bulks] at hk
    have h1 := h t (List.mem_cons_self ..) (by omega)
    have h2 := ih (fun t ht => h t (List.mem_cons_of_mem _ ht)) ns.tail (by omega) (by omega)
    have h3 := txt_len (t := ns.headD []) (by omega)
    rw [T.encs, T.bulks, T.sizes, List.length_append, List.length_append]
    omega
theorem T.enc_room : ∀ t : T, t.bulk ≤ 1048576 → t.enc.length + 5 ≤ t.bulk + 11 * t.size := by
  intro t
  induction t using T.ind with
  | h k d ns ks ih =>
    intro hb
    rw [T.bulk] at hb
    have h1 := T.encs_room ks ih ns (by omega) (by omega)
    have h2 := txt_len (t := d) (by omega)
    rw [T.enc, T.bulk, T.size, List.length_cons]
    split
    · rw [List.length_cons]; omega
    · omega

/-- What TreeBytes answers. -/
def encOf (t : T) : List Int := if treeOk t then t.enc else []
theorem encOf_room (t : T) (h : t.bulk ≤ 1048576) : (encOf t).length ≤ 1049100 := by
  unfold encOf
  split
  · rename_i hv
    rw [treeOk, Bool.and_eq_true, decide_eq_true_eq] at hv
    have := t.enc_room h
    omega
  · simp
theorem entry_len {l : List Int} (h : entryOk l = true) : l.length ≤ 8 := by
  rw [entryOk, Bool.and_eq_true, decide_eq_true_eq] at h
  exact h.1.2.1
theorem nodeOk_dir {d : List Int} {ns : List (List Int)} {ks : List T} (h : (T.node 2 d ns ks).nodeOk = true) : d.length = 0 ∧ ks.length ≤ 6 ∧ ns.length = ks.length ∧ ∀ m, m < ns.length → (ns.getD m []).length ≤ 8 := by
  rw [T.nodeOk, if_pos rfl, Bool.and_eq_true, decide_eq_true_eq] at h
  refine ⟨h.1.1, h.1.2.1, h.1.2.2, fun m hm => ?_⟩
  have := asc_at.1 h.2 m hm
  rw [nameAt, Bool.and_eq_true] at this
  exact entry_len this.1
theorem nodeOk_file {k : Int} {d : List Int} {ns : List (List Int)} {ks : List T} (h2 : k ≠ 2) (h : (T.node k d ns ks).nodeOk = true) : 0 ≤ k ∧ k ≤ 3 ∧ d.length ≤ 400 ∧ ns.length = 0 ∧ ks.length = 0 := by
  rw [T.nodeOk, if_neg h2, decide_eq_true_eq] at h
  exact h
theorem okAt_parts {k : Int} {d : List Int} {ns : List (List Int)} {ks : List T} {deep : Nat} (h : T.okAt (.node k d ns ks) deep = true) : (T.node k d ns ks).nodeOk = true ∧ ∀ t ∈ ks, t.okAt (deep + 1) = true := by
  rw [T.okAt, Bool.and_eq_true, Bool.and_eq_true] at h
  exact ⟨h.2.1, T.okAts_mem h.2.2⟩

end Go.Proofs.Ytchmppikpeeghaa
