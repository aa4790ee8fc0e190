/-
  Parts of the proof: BytQ.
-/
import Derived.Test.YtigklnokgmcifaaDoorMo38
import Derived.Test.YtigklnokgmcifaaDoorMo29

/-
  What TreeBytes gathers, node by node.
-/
namespace Go.Proofs.YtigklnokgmcifaaDoor
open Go.RowKit Go.Shelf
set_option linter.unusedVariables false

theorem own_any {w : World} {lo n size : Nat} {e : TypeId} {v : Value} {xs : List Value} (h : w.ownsRow lo e size v n xs) : ∃ m, Hid (m = n) ∧ w.ownsRow lo e size v m xs := ⟨n, hide rfl, h⟩
/-- What a node adds. -/
def tx (t : List Int) : List Int := if 400 < t.length then [] else txt t
theorem putText_tx (l t : List Int) : putText l t = l ++ tx t := by
  unfold tx
  split
  · rw [putText, if_pos (by assumption), List.append_nil]
  · exact putText_txt (by omega)
def nodeEnc : Nat × List Int × T → List Int
  | (s, nm, .node k d ns ks) => (if 0 < s then tx nm else []) ++ ([k] ++ (if k = 2 then [(ks.length : Int)] else tx d))
def ekx : List (Nat × List Int × T) → List Int
  | [] => []
  | k :: r => nodeEnc k ++ ekx r
theorem ekx_append (a b : List (Nat × List Int × T)) : ekx (a ++ b) = ekx a ++ ekx b := by
  induction a with
  | nil => rfl
  | cons k a ih => rw [List.cons_append, ekx, ekx, ih, List.append_assoc]
theorem ekx_prefix {a b : List (Nat × List Int × T)} (h : a <+: b) : (ekx a).length ≤ (ekx b).length := by
  obtain ⟨c, rfl⟩ := h
  rw [ekx_append, List.length_append]
  omega
theorem T.pres_ek (ks : List T) (s : Nat) (h : ∀ t ∈ ks, ∀ nm, nm.length ≤ 400 → ekx (t.pre (s + 1) nm) = txt nm ++ t.enc) (ns : List (List Int)) (hn : ∀ m, m < ks.length → (ns.getD m []).length ≤ 400) : ekx (T.pres ks ns (s + 1)) = T.encs ks ns := by
  induction ks generalizing ns with
  | nil => rfl
  | cons t r ih =>
    have h0 : (ns.headD []).length ≤ 400 := by
      have := hn 0 (by simp)
      cases ns <;> first | exact this | simp
    rw [T.pres, ekx_append, T.encs, h t (List.mem_cons_self ..) _ h0, ih (fun t ht => h t (List.mem_cons_of_mem _ ht)) ns.tail (fun m hm => by
      have := hn (m + 1) (by simpa using hm)
      cases ns <;> first | exact this | simp)]
theorem T.pre_ek : ∀ (t : T) (deep : Nat), t.okAt deep = true → ∀ (s : Nat) (nm : List Int), nm.length ≤ 400 → ekx (t.pre s nm) = (if 0 < s then txt nm else []) ++ t.enc := by
  intro t
  induction t using T.ind with
  | h k d ns ks ih =>
    intro deep hok s nm hnm
    obtain ⟨hnd, hoks⟩ := okAt_parts hok
    have htx : ∀ l : List Int, l.length ≤ 400 → tx l = txt l := fun l hl => by rw [tx, if_neg (by omega)]
    rw [T.pre, ekx, nodeEnc, T.enc, htx nm hnm, List.append_assoc, List.append_assoc, List.singleton_append]
    congr 2
    by_cases h2 : k = 2
    · subst h2
      obtain ⟨_, _, hl, hn⟩ := nodeOk_dir hnd
      rw [if_pos rfl, if_pos rfl, List.singleton_append, T.pres_ek ks s (fun t ht nm hnm => by
        have := ih t ht (deep + 1) (hoks t ht) (s + 1) nm hnm
        rwa [if_pos (by omega)] at this) ns (fun m hm => by have := hn m (by omega); omega)]
    · obtain ⟨_, _, hd, _, hk⟩ := nodeOk_file h2 hnd
      obtain rfl := List.eq_nil_of_length_eq_zero hk
      rw [if_neg h2, if_neg h2, htx d hd, T.pres, ekx, List.append_nil]
theorem treeOk_deep {t : T} (h : treeOk t = true) : t.okAt 1 = true := by
  rw [treeOk, Bool.and_eq_true] at h
  exact h.1
theorem T.ek_room {t : T} (hv : treeOk t = true) (hb : t.bulk ≤ 1048576) : ekx (t.pre 0 []) = t.enc ∧ t.enc.length ≤ 1049100 := by
  refine ⟨by rw [t.pre_ek 1 (treeOk_deep hv) 0 [] (by simp)]; rfl, ?_⟩
  have := encOf_room t hb
  rwa [encOf, if_pos hv] at this
theorem C6.step2 {lo : Nat} {w w' : World} {g : Nat} {a b c d e f : Value} (h : C6 w g a b c d e f) (hh : Steps lo w w') : C6 w' g a b c d e f := hh.rows _ _ _ _ h (by decide) (by decide)
theorem TIn.at4 {w : World} {t : T} {q : Q} (h : TIn w t q) : ∃ k d ns ks, t = .node k d ns ks ∧ q.k = k ∧ Rd w q.d (bs d) ∧ ∃ A c, q.c = .slice A ks.length c := by
  obtain ⟨k, d, ns, ks⟩ := t
  obtain ⟨A, c, A', c', A'', c'', ed, hc1, hc2, en, hc1', hc2', ec, hc1'', hc2''⟩ := h.lens
  rw [TIn] at h
  exact ⟨k, d, ns, ks, rfl, h.1, h.2.1, A'', c'', ec⟩

end Go.Proofs.YtigklnokgmcifaaDoor
