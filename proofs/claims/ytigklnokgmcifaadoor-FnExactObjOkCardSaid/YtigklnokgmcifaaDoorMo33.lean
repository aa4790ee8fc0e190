/-
  Parts of the proof: Bulk, M4, OutI, TreeOkI.
-/
import Derived.Test.YtigklnokgmcifaaDoorMo29
import Derived.Test.YtigklnokgmcifaaDoorMo12
import Derived.Test.YtigklnokgmcifaaDoorMo8
import Derived.Test.YtigklnokgmcifaaDoorMo28
import Derived.Test.YtigklnokgmcifaaDoorMo21
import Derived.Test.YtigklnokgmcifaaDoorMo11
import Derived.Test.YtigklnokgmcifaaDoorMo10
import Derived.WalkSpells
import Derived.Test.YtigklnokgmcifaaDoorMo32

/-
  Valid trees are small.
-/
namespace Go.Proofs.YtigklnokgmcifaaDoor
open Go.RowKit
set_option linter.unusedVariables false

theorem sumLen_le8 : ∀ (ns : List (List Int)), (∀ m, m < ns.length → (ns.getD m []).length ≤ 8) → sumLen ns ≤ 8 * ns.length
  | [], _ => by simp [sumLen]
  | n :: r, h => by
    have h0 := h 0 (by simp)
    have := sumLen_le8 r (fun m hm => by have := h (m + 1) (by simpa using hm); simpa using this)
    simp [sumLen] at h0 ⊢
    omega
theorem T.bulks_ok (ks : List T) (h : ∀ t ∈ ks, t.bulk ≤ 400 * t.size) : T.bulks ks ≤ 400 * T.sizes ks := by
  induction ks with
  | nil => simp [T.bulks]
  | cons t r ih =>
    have h1 := h t (List.mem_cons_self ..)
    have h2 := ih fun t ht => h t (List.mem_cons_of_mem _ ht)
    rw [T.bulks, T.sizes]
    omega
theorem T.bulk_ok : ∀ (t : T) {d : Nat}, t.okAt d = true → t.bulk ≤ 400 * t.size := by
  intro t
  induction t using T.ind with
  | h k d ns ks ih =>
    intro deep h
    obtain ⟨h1, h2⟩ := okAt_parts h
    have h3 := T.bulks_ok ks fun t ht => ih t ht (h2 t ht)
    rw [T.bulk, T.size]
    by_cases hk : k = 2
    · subst hk
      obtain ⟨a, b, c, e⟩ := nodeOk_dir h1
      have := sumLen_le8 ns e
      omega
    · obtain ⟨a, b, c, e, f⟩ := nodeOk_file hk h1
      have : ns = [] := List.eq_nil_of_length_eq_zero e
      subst this
      simp [sumLen]
      omega
theorem treeOk_at {t : T} (h : treeOk t = true) : t.okAt 1 = true ∧ t.size ≤ 40 := by
  rw [treeOk, Bool.and_eq_true, decide_eq_true_eq] at h
  exact h
theorem treeOk_bulk {t : T} (h : treeOk t = true) : t.bulk ≤ 16000 := by
  obtain ⟨h1, h2⟩ := treeOk_at h
  have := T.bulk_ok t h1
  omega
theorem treeOk_enc {t : T} (h : treeOk t = true) : t.enc.length ≤ 16440 := by
  have h1 := treeOk_bulk h
  have h2 := T.enc_room t (by omega)
  have h3 := (treeOk_at h).2
  omega
theorem treeOk_data {t : T} (h : treeOk t = true) : t.data.length ≤ 16000 := by
  have h1 := treeOk_bulk h
  obtain ⟨k, d, ns, ks⟩ := t
  rw [T.bulk] at h1
  show d.length ≤ _
  omega
theorem T.dats_bulk2 (ks : List T) (h : ∀ t ∈ ks, t.dat.length ≤ t.bulk) : (T.dats ks).length ≤ T.bulks ks := by
  induction ks with
  | nil => simp [T.dats]
  | cons t r ih =>
    have h1 := h t (List.mem_cons_self ..)
    have h2 := ih fun t ht => h t (List.mem_cons_of_mem _ ht)
    rw [T.dats, T.bulks, List.length_append]
    omega
theorem T.dat_bulk2 : ∀ t : T, t.dat.length ≤ t.bulk := by
  intro t
  induction t using T.ind with
  | h k d ns ks ih =>
    have := T.dats_bulk2 ks ih
    rw [T.dat, T.bulk, List.length_append]
    omega
theorem treeOk_dat {t : T} (h : treeOk t = true) : t.dat.length ≤ 16000 := Nat.le_trans (T.dat_bulk2 t) (treeOk_bulk h)

theorem T.tin_of {w : World} {t : T} {k : Int} {v1 v2 v3 : Value} (h : Ins w t.cells [.int .i64 k, v1, v2, v3]) : TIn w t ⟨k, v1, v2, v3⟩ := by
  obtain ⟨q, e, hq⟩ := h.tin
  obtain ⟨k', d', n', c'⟩ := q
  simp only [Q.cells, List.cons.injEq, Value.int.injEq, true_and, and_true] at e
  obtain ⟨rfl, rfl, rfl, rfl⟩ := e
  exact hq
end Go.Proofs.YtigklnokgmcifaaDoor


/-
  Chapter 4 in plain lists: objects, stores.
-/
namespace Go.Proofs.YtigklnokgmcifaaDoor
open Go.RowKit
set_option linter.unusedVariables false

/-- The place of the first object of that name; the number of objects: there is none. -/
def atO : List DObj → List Int → Nat
  | [], _ => 0
  | o :: os, n => if o.name = n then 0 else atO os n + 1
def atI (os : List DObj) (n : List Int) : Int := if atO os n < os.length then (atO os n : Int) else -1
theorem atO_le (os : List DObj) (n : List Int) : atO os n ≤ os.length := by
  induction os with
  | nil => exact Nat.le_refl _
  | cons o os ih =>
    rw [atO]
    split
    · simp
    · simp; omega
theorem atO_found {os : List DObj} {n : List Int} {j : Nat} (h : j < os.length) (h0 : ∀ m (hm : m < j), (os[m]'(by omega)).name ≠ n) (h1 : os[j].name = n) : atO os n = j := by
  induction os generalizing j with
  | nil => simp at h
  | cons o os ih =>
    cases j with
    | zero => rw [atO, if_pos (by simpa using h1)]
    | succ j =>
      have := h0 0 (by omega)
      rw [atO, if_neg (by simpa using this)]
      rw [ih (j := j) (by simpa using h) (fun m hm => by have := h0 (m + 1) (by omega); simpa using this) (by simpa using h1)]
theorem atO_none {os : List DObj} {n : List Int} (h0 : ∀ m (hm : m < os.length), (os[m]).name ≠ n) : atO os n = os.length := by
  induction os with
  | nil => rfl
  | cons o os ih =>
    have := h0 0 (by simp)
    rw [atO, if_neg (by simpa using this), ih (fun m hm => by have := h0 (m + 1) (by simpa using hm); simpa using this)]
    rfl
theorem atO_name {os : List DObj} {n : List Int} (h : atO os n < os.length) : (os[atO os n]).name = n := by
  induction os with
  | nil => simp at h
  | cons o os ih =>
    by_cases ho : o.name = n
    · have e : atO (o :: os) n = 0 := by rw [atO, if_pos ho]
      simp only [e]
      exact ho
    · have e : atO (o :: os) n = atO os n + 1 := by rw [atO, if_neg ho]
      simp only [e, List.getElem_cons_succ]
      exact ih (by rw [e] at h; simpa using h)
theorem atI_found {os : List DObj} {n : List Int} {j : Nat} (h : j < os.length) (h0 : ∀ m (hm : m < j), (os[m]'(by omega)).name ≠ n) (h1 : os[j].name = n) : atI os n = j := by
  rw [atI, atO_found h h0 h1, if_pos h]
theorem atI_none {os : List DObj} {n : List Int} (h0 : ∀ m (hm : m < os.length), (os[m]).name ≠ n) : atI os n = -1 := by
  rw [atI, atO_none h0, if_neg (Nat.lt_irrefl _)]

/-- The name that what an object is gives it. -/
def made (o : DObj) : List Int := if o.kind = 0 then nameOf 116 o.tree.data else if o.kind = 1 then nameOf 102 o.tree.enc else nameOf 111 (putText o.frm o.out)
def objOk (o : DObj) : Bool :=
  decide (0 ≤ o.kind ∧ o.kind ≤ 2) && (treeOk o.tree && (ascP nameOk o.refs && (decide (o.refs.length ≤ 24) &&
  ((if o.kind = 2 then nameOk o.frm && entryOk o.out else decide (o.frm.length = 0 ∧ o.out.length = 0)) &&
  (!(decide (o.kind = 0) && !decide (o.tree.kind = 0)) &&
  (o.refs.all (fun r => contL o.tree.dat r) && decide (made o = o.name)))))))
def objBad1 (o : DObj) : Bool := !(decide (0 ≤ o.kind ∧ o.kind ≤ 2) && (treeOk o.tree && (ascP nameOk o.refs && decide (o.refs.length ≤ 24))))
def objBad2 (o : DObj) : Bool := !((if o.kind = 2 then nameOk o.frm && entryOk o.out else decide (o.frm.length = 0 ∧ o.out.length = 0)) && !(decide (o.kind = 0) && !decide (o.tree.kind = 0)))
def objNames (os : List DObj) : List (List Int) := os.map DObj.name
theorem objNames_len (os : List DObj) : (objNames os).length = os.length := List.length_map _
theorem objNames_next {os : List DObj} {j : Nat} (h : j < os.length) : objNames (os.take (j + 1)) = objNames (os.take j) ++ [os[j].name] := by
  rw [objNames, List.take_succ_eq_append_getElem h, List.map_append]; rfl
/-- Texts, one cell each. -/
abbrev rawss (ns : List (List Int)) : List Cel := cells (fun n => [raw n]) ns
theorem rawss_snoc (ns : List (List Int)) (n : List Int) : rawss (ns ++ [n]) = rawss ns ++ [raw n] := by
  rw [rawss, cells_app]; rfl

end Go.Proofs.YtigklnokgmcifaaDoor


/-
  The name of an output: the program.
-/
namespace Go.Proofs.YtigklnokgmcifaaDoor
open Go.RowKit
set_option linter.unusedVariables false

def outNm (a b : List Int) : List Int := if nameOk a && entryOk b then nameOf 111 (putText a b) else []
theorem nmLen16 {l : List Int} (h : nameOk l = true) : l.length = 16 := by
  rw [nameOk, Bool.and_eq_true, decide_eq_true_eq] at h
  exact h.1
theorem enLen8 {l : List Int} (h : entryOk l = true) : l.length ≤ 8 := by
  rw [entryOk, Bool.and_eq_true, decide_eq_true_eq] at h
  omega
theorem putText_small {a b : List Int} (ha : a.length = 16) (hb : b.length ≤ 8) : (putText a b).length ≤ 90000 := by
  have := putNum_len a b.length
  rw [putText]
  split
  · omega
  · rw [List.length_append]; omega
theorem outNm_some {a b : List Int} (ha : nameOk a = true) (hb : entryOk b = true) : outNm a b = b32 ((shaL (111 :: putText a b)).take 10) := by
  have := putText_small (nmLen16 ha) (enLen8 hb)
  rw [outNm, ha, hb, Bool.and_self, if_pos rfl, nameOf, if_neg (by omega)]
theorem outNm_len {a b : List Int} : (outNm a b).length ≤ 16 := by
  cases ha : nameOk a <;> cases hb : entryOk b
  all_goals try (rw [outNm, ha, hb]; simp; done)
  rw [outNm_some ha hb, b32_len, sha10_len]
  omega
theorem outNm_pos {a b : List Int} (ha : nameOk a = true) (hb : entryOk b = true) : (outNm a b).length = 16 := by
  rw [outNm_some ha hb, b32_len, sha10_len]

set_option maxRecDepth 20000 in
set_option maxHeartbeats 800000 in
theorem implOutLow (a : List Int) (hA : Byt a) (va : Value) (b : List Int) (hB : Byt b) (vb : Value) (w : World) (h0 : Rd w va (bs a)) (h1 : Rd w vb (bs b)) (hla : a.length ≤ 1048576) (hT : Tab w) :
    Calls Tryd.prog 71 #[va, vb] w fun e w' => ∃ A n c, e = .returned (.slice A n c) ∧ Hid (A.isSome = (nameOk a && entryOk b)) ∧ Own 5 w.heap.size w'.heap.size w' (.slice A n c) (bs (outNm a b)) ∧ Below w.heap.size w w' := by
  have HNO := hide (implNameOk a hA va w h0 (by omega))
  have HEO := hide (fun W (hb : Below w.heap.size w W) => implEntryQ b hB vb W (h1.below hb))
  have HPT := hide (fun W (hb : Below w.heap.size w W) => implPutText a va b vb W (h0.below hb) (h1.below hb) (by omega))
  have hno : (nameOk a && entryOk b) = false → outNm a b = [] := fun h => by rw [outNm, h]; rfl
  have hyes : nameOk a = true → entryOk b = true → outNm a b = nameOf 111 (putText a b) ∧ (outNm a b).length = 16 := fun ha hb => ⟨by rw [outNm, ha, hb]; rfl, outNm_pos ha hb⟩
  have HNA := hide (fun v W (h : Rd W v (bs (putText a b))) (hb : Below w.heap.size w W) => implNameOf 111 (by omega) (putText a b) (putText_byt hA hB) v W h (hT.step hb))
  have HNONE := hide hno
  have HYES := hide hyes
  generalize hx : nameOk a = X at *
  generalize hy : entryOk b = Y at *
  clear h0 h1 hno hyes hx hy hT
  cases X <;> cases Y
  · have HR := hide (HNONE.out rfl)
    go_enter Tryd.func71, Tryd.ntmps71
    go_wp2_with (go_at_call 38; (with_reducible refine HNO.out.mono ?_); rintro e w1 ⟨rfl, b1⟩; have HB1 := hide b1; clear b1)
    go_ret
    exact ⟨_, _, _, rfl, hide rfl, by rw [HR.out]; exact Own.of (World.ownsRow_nil _ _ _ _) rfl, HB1.out⟩
  · have HR := hide (HNONE.out rfl)
    go_enter Tryd.func71, Tryd.ntmps71
    go_wp2_with (go_at_call 38; (with_reducible refine HNO.out.mono ?_); rintro e w1 ⟨rfl, b1⟩; have HB1 := hide b1; clear b1)
    go_ret
    exact ⟨_, _, _, rfl, hide rfl, by rw [HR.out]; exact Own.of (World.ownsRow_nil _ _ _ _) rfl, HB1.out⟩
  · have HR := hide (HNONE.out rfl)
    go_enter Tryd.func71, Tryd.ntmps71
    go_wp2_with (first
      | (go_at_call 38; (with_reducible refine HNO.out.mono ?_); rintro e w1 ⟨rfl, b1⟩; have HB1 := hide b1; clear b1)
      | (go_at_call 99; refine (HEO.out _ HB1.out).mono ?_; rintro e w' ⟨rfl, rfl⟩))
    go_ret
    exact ⟨_, _, _, rfl, hide rfl, by rw [HR.out]; exact Own.of (World.ownsRow_nil _ _ _ _) rfl, HB1.out⟩
  · have HR := hide (HYES.out (by trivial) (by trivial))
    go_enter Tryd.func71, Tryd.ntmps71
    go_wp2_with (first
      | (go_at_call 38; (with_reducible refine HNO.out.mono ?_); rintro e w1 ⟨rfl, b1⟩; have HB1 := hide b1; clear b1)
      | (go_at_call 99; refine (HEO.out _ HB1.out).mono ?_; rintro e w' ⟨rfl, rfl⟩)
      | (go_at_call 93; refine (HPT.out _ HB1.out).mono ?_; rintro e w2 ⟨v2, rfl, o2, b2⟩; have HB2 := hide (HB1.out.trans (b2.mono HB1.out.size)); have HRD := hide o2.rd; clear o2 b2)
      | (go_at_call 51; refine (HNA.out _ _ HRD.out HB2.out).mono ?_; rintro e w3 ⟨v3, rfl, o3, b3⟩; have ho3 := o3; obtain ⟨A9, c9, rfl, -, -⟩ := own_slice ho3.1; have HO3 := hide (o3.wide HB2.out.size (Nat.le_refl _) (Nat.le_refl _)); have HB3 := hide (HB2.out.trans (b3.mono HB2.out.size)); clear o3 b3 ho3))
    go_ret
    have ho := HO3.out
    obtain ⟨e1, e2⟩ := HR.out
    have hlen : 0 < (bs (nameOf 111 (putText a b))).length := by rw [bs_length, ← e1, e2]; omega
    obtain ⟨g, hg, -, -⟩ := own_form ho.1 hlen
    exact ⟨_, _, _, rfl, hide (by rw [hg]; rfl), by rw [e1]; exact ho, HB3.out⟩

end Go.Proofs.YtigklnokgmcifaaDoor


/-
  The program's TreeOk.
-/
namespace Go.Proofs.YtigklnokgmcifaaDoor
open Go.RowKit Go.Shelf
set_option linter.unusedVariables false
attribute [local go_sem] Oper.semAt_some

theorem T.pres_len (ks : List T) (h : ∀ t ∈ ks, ∀ s nm, (t.pre s nm).length = t.size) (ns : List (List Int)) (s : Nat) : (T.pres ks ns s).length = T.sizes ks := by
  induction ks generalizing ns with
  | nil => rfl
  | cons t r ih => rw [T.pres, T.sizes, List.length_append, h t (List.mem_cons_self ..), ih (fun t ht => h t (List.mem_cons_of_mem _ ht))]
theorem T.pre_len : ∀ (t : T) (s : Nat) (nm : List Int), (t.pre s nm).length = t.size := by
  intro t
  induction t using T.ind with
  | h k d ns ks ih =>
    intro s nm
    rw [T.pre, T.size, List.length_cons, T.pres_len ks ih]
    omega
theorem T.pres_ok (ks : List T) (h : ∀ t ∈ ks, ∀ s nm, t.okAt (s + 1) = true ↔ ∀ k ∈ t.pre s nm, k.1 < 4 ∧ k.2.2.nodeOk = true) (ns : List (List Int)) (s : Nat) :
    T.okAts ks (s + 1) = true ↔ ∀ k ∈ T.pres ks ns s, k.1 < 4 ∧ k.2.2.nodeOk = true := by
  induction ks generalizing ns with
  | nil => simp [T.okAts, T.pres]
  | cons t r ih =>
    rw [T.okAts, T.pres, Bool.and_eq_true, h t (List.mem_cons_self ..) s (ns.headD []), ih (fun t ht => h t (List.mem_cons_of_mem _ ht)) ns.tail]
    simp only [List.mem_append]
    exact ⟨fun ⟨h1, h2⟩ k hk => hk.elim (h1 k) (h2 k), fun h => ⟨fun k hk => h k (.inl hk), fun k hk => h k (.inr hk)⟩⟩
theorem T.pre_ok : ∀ (t : T) (s : Nat) (nm : List Int), t.okAt (s + 1) = true ↔ ∀ k ∈ t.pre s nm, k.1 < 4 ∧ k.2.2.nodeOk = true := by
  intro t
  induction t using T.ind with
  | h k d ns ks ih =>
    intro s nm
    rw [T.pre, T.okAt, Bool.and_eq_true, Bool.and_eq_true, T.pres_ok ks ih ns (s + 1)]
    simp only [List.mem_cons, forall_eq_or_imp, decide_eq_true_eq]
    exact ⟨fun ⟨h1, h2, h3⟩ => ⟨⟨by omega, h2⟩, h3⟩, fun ⟨⟨h1, h2⟩, h3⟩ => ⟨by omega, h2, h3⟩⟩
theorem treeOk_yes {w0 : World} {t : T} {xs : List (Nd w0)} (h : xs.map Nd.key = t.pre 0 []) (hg : ∀ y ∈ xs, y.good) (hl : xs.length ≤ 40) : treeOk t = true := by
  have e : t.size = xs.length := by rw [← T.pre_len t 0 [], ← h, List.length_map]
  have o : t.okAt (0 + 1) = true := (T.pre_ok t 0 []).2 fun k hk => by
    rw [← h] at hk
    obtain ⟨y, hy, rfl⟩ := List.mem_map.1 hk
    exact hg y hy
  rw [treeOk, show t.okAt 1 = true from o, decide_eq_true (by omega)]
  rfl
theorem treeOk_no {w0 : World} {t : T} {xs : List (Nd w0)} (h : xs.map Nd.key <+: t.pre 0 []) (hb : (∃ y ∈ xs, ¬ y.good) ∨ 40 < xs.length) : treeOk t = false := by
  cases e : treeOk t with
  | false => rfl
  | true =>
    exfalso
    rw [treeOk, Bool.and_eq_true, decide_eq_true_eq] at e
    rcases hb with ⟨y, hy, hn⟩ | hb
    · exact hn ((T.pre_ok t 0 []).1 e.1 y.key (h.subset (List.mem_map.2 ⟨y, hy, rfl⟩)))
    · have := h.length_le
      rw [List.length_map, T.pre_len] at this
      omega

theorem Holds.box {n₀ : Nat} {W : World} {B : Nat} {t : TypeId} {v : Value} (hb : Boxed W B t v) (h1 : t ≠ 91) (h2 : t ≠ 33) (hn : n₀ ≤ B) (u : Value) : Holds n₀ W (W.setCell ⟨B, 0, none⟩ u) := by
  refine ⟨(Below.refl _ _).setCell (p := ⟨B, 0, none⟩) hn u, fun k cs t' r hk ht => ?_⟩
  refine (Below.heap_setCell W ⟨B, 0, none⟩ u k (fun e => ?_)).trans hk
  dsimp only at e
  subst e
  rw [show W.heap[k]? = _ from hb] at hk
  injection hk with hk
  injection hk with _ hk _
  rcases ht with ht | ht
  · exact h1 (hk.trans ht)
  · exact h2 (hk.trans ht)
theorem Holds.put {n₀ : Nat} {W : World} {l : Nat} {r : Loop} (h : W.heap[l]? = some (.loop r)) (hn : n₀ ≤ l) (o : Obj) : Holds n₀ W (W.putObj l o) := by
  refine ⟨(Below.refl n₀ W).grown (grownBy_putObj' W l o) (by have := (Array.getElem?_eq_some_iff.1 h).1; omega) (fun k e => by cases e; omega), fun k cs t' r' hk ht => ?_⟩
  refine (World.putObj_heap_other (fun e => ?_)).trans hk
  subst e
  rw [h] at hk
  cases hk

/-- Between two rounds of TreeOk. -/
def TokI (w : World) (xs : List (Nd w)) (W : World) : Prop := Boxed W (w.heap.size + 1 + 1) 3 (.int .i64 xs.length) ∧ Boxed W (w.heap.size + 1) 4 (.bool false) ∧ (∀ y ∈ xs, y.good) ∧ xs.length ≤ 40 ∧ Below w.heap.size w W
def TokX (w : World) (xs : List (Nd w)) (W : World) : Prop := Boxed W (w.heap.size + 1) 4 (.bool false) ∧ ((∃ y ∈ xs, ¬ y.good) ∨ 40 < xs.length) ∧ Below w.heap.size w W
theorem TokI.step {w : World} {xs : List (Nd w)} {W W' : World} (h : TokI w xs W) (hb : Below W.heap.size W W') : TokI w xs W' :=
  ⟨(hb.block _ h.1.lt).trans h.1, (hb.block _ h.2.1.lt).trans h.2.1, h.2.2.1, h.2.2.2.1, h.2.2.2.2.trans (hb.mono h.2.2.2.2.size)⟩
theorem TokX.step {w : World} {xs : List (Nd w)} {W W' : World} (h : TokX w xs W) (hb : Below W.heap.size W W') : TokX w xs W' :=
  ⟨(hb.block _ h.1.lt).trans h.1, h.2.1, h.2.2.trans (hb.mono h.2.2.size)⟩
theorem boxed_put {W : World} {B l : Nat} {t : TypeId} {v : Value} {r : Loop} (hb : Boxed W B t v) (h : W.heap[l]? = some (.loop r)) (o : Obj) : Boxed (W.putObj l o) B t v :=
  (World.putObj_heap_other (fun e => by
    subst e
    have hb2 : W.heap[B]? = _ := hb
    rw [h] at hb2
    cases hb2)).trans hb
theorem C6.put {W : World} {B l : Nat} {a b c d e f : Value} {r : Loop} (hb : C6 W B a b c d e f) (h : W.heap[l]? = some (.loop r)) (o : Obj) : C6 (W.putObj l o) B a b c d e f :=
  (World.putObj_heap_other (fun e' => by
    subst e'
    have hb2 : W.heap[B]? = _ := hb
    rw [h] at hb2
    cases hb2)).trans hb
theorem TokI.put {w : World} {xs : List (Nd w)} {W : World} {l : Nat} {r : Loop} (h : TokI w xs W) (hl : W.heap[l]? = some (.loop r)) (hn : w.heap.size ≤ l) (o : Obj) : TokI w xs (W.putObj l o) :=
  ⟨boxed_put h.1 hl o, boxed_put h.2.1 hl o, h.2.2.1, h.2.2.2.1, h.2.2.2.2.trans (Holds.put hl hn o).below⟩
theorem TokX.put {w : World} {xs : List (Nd w)} {W : World} {l : Nat} {r : Loop} (h : TokX w xs W) (hl : W.heap[l]? = some (.loop r)) (hn : w.heap.size ≤ l) (o : Obj) : TokX w xs (W.putObj l o) :=
  ⟨boxed_put h.1 hl o, h.2.1, h.2.2.trans (Holds.put hl hn o).below⟩

set_option maxRecDepth 20000 in
set_option maxHeartbeats 1600000 in
theorem implTreeOk (t : T) (hB : t.Byts) (q : Q) (w : World) (hq : TIn w t q) :
    Calls Tryd.prog 36 #[q.val] w fun e w' => e = .returned (.bool (treeOk t)) ∧ Below w.heap.size w w' := by
  refine (callsIn_wide (n := 6)).1 ?_
  obtain ⟨A, n, c, A', n', c', A'', n'', c'', e, e', e''⟩ := hq.form
  obtain ⟨x, hx⟩ : ∃ x : Nd w, x = ⟨0, [], t, .slice none 0 0, q, ⟨none, 0, rfl, Nat.zero_le _, Nat.zero_le _, fun h => absurd h (by simp [bs])⟩, (fun _ h => by cases h), hq, hB⟩ := ⟨_, rfl⟩
  have hnodes := fun W (hb : Below w.heap.size w W) => nodes t q W (hq.below hb)
  have hqv : q.val = .agg #[.int .i64 q.k, .slice A n c, .slice A' n' c', .slice A'' n'' c''] := by rw [← e, ← e', ← e'']
  obtain ⟨w1, hw1, box, b1, z1⟩ := boxed w q 33
  rw [e, e', e''] at hw1 box
  rw [hqv] at hnodes ⊢
  have HN := hide hnodes
  have y0 := box.c0
  have y1 := box.c1
  have y2 := box.c2
  have y3 := box.c3
  clear hnodes
  refine callsIn_of_wp_marks Tryd.func36 rfl trivial ?_ rfl
  simp only [Tryd.ntmps36, List.size_toArray, List.length_cons, List.length_nil, Nat.reduceAdd, Nat.reduceSub, Array.replicate_succ, Array.replicate_zero, List.push_toArray, List.append_toArray, List.nil_append, List.cons_append]
  gi_wp2
  refine ⟨trivial, ?_⟩
  refine (callsIn_wide.2 (HN.out _ ((b1.alloc (by omega) _).alloc (by simp; omega) _))).mono ?_
  rintro e w3 ⟨rfl, rfl⟩
  have bC := (Boxed.new (w1.alloc (.cells #[.bool false] 4)) 3 (.int .i64 0))
  have bR := (Boxed.new w1 4 (.bool false)).alloc (.cells #[.int .i64 0] 3)
  have bT := (box.step ((Below.refl w1.heap.size w1).alloc (Nat.le_refl _) (Obj.cells #[.bool false] 4))).step ((Below.refl _ _).alloc (Nat.le_refl _) (Obj.cells #[.int .i64 0] 3))
  rw [World.size_alloc] at bC
  obtain ⟨w2, hw2⟩ : ∃ w2, (w1.alloc (.cells #[.bool false] 4)).alloc (.cells #[.int .i64 0] 3) = w2 := ⟨_, rfl⟩
  have z2 : w2.heap.size = w.heap.size + 3 := by rw [← hw2]; simp; omega
  have b2 : Below w.heap.size w w2 := by rw [← hw2]; exact (b1.alloc (by omega) _).alloc (by simp; omega) _
  rw [hw2] at bC bR bT ⊢
  clear hw2 y0 y1 y2 y3 hw1 box
  gi_wp2
  obtain ⟨W0, hW0, box0, b0, z0⟩ := boxed w2 ⟨q.k, .slice A n c, .slice A' n' c', .slice A'' n'' c''⟩ 33
  rw [hW0]
  rw [z1] at bC bR
  have bC0 : Boxed W0 (w.heap.size + 1 + 1) 3 (.int .i64 0) := (b0.block _ bC.lt).trans bC
  have bR0 : Boxed W0 (w.heap.size + 1) 4 (.bool false) := (b0.block _ bR.lt).trans bR
  have hw0 : Below w.heap.size w W0 := b2.trans (b0.mono b2.size)
  have hbox : C4 W0 (w.heap.size + 3) 33 (.int .i64 x.q.k) x.q.d x.q.n x.q.c := by
    rw [hx]
    dsimp only
    rw [e, e', e'', ← z2]
    exact box0
  have zz : W0.heap.size = w.heap.size + 4 := by omega
  have hI0 : TokI w [] W0 := ⟨bC0, bR0, (fun y hy => by cases hy), Nat.zero_le _, hw0⟩
  clear hW0 bC bR bT box0 b0 z0 b2 z2 b1 z1 bC0 bR0
  refine rangeF (F := Fence.wide) (T := fun W => ∃ xs : List (Nd w), xs.map Nd.key = t.pre 0 [] ∧ TokI w xs W) (X := fun c W => c = .ret ∧ ∃ xs : List (Nd w), xs.map Nd.key <+: t.pre 0 [] ∧ TokX w xs W)
    rfl (by omega) (gf := 96) (lb := #[.pointer (some ⟨w.heap.size + 3, 0, none⟩)]) rfl trivial (enters_of Tryd.func96 (by kernel_rfl) rfl) ?hit ?done ?stop
  case hit =>
    intro r W1 hfn htm hps has hbd hrec hb1 hz1
    have hxt : x.t = t := by rw [hx]
    refine callsIn_wide.2 ((nodes1 w x (by rw [hx]) (by rw [hx]) (by rw [hx]) (W0.heap.size + 1) (fun pre W => TokI w pre W ∧ RecAt W W0.heap.size r .ready none) (fun xs W => TokX w xs W ∧ RecAt W W0.heap.size r .done (some .ret))
      (fun pre W W' h hb => ⟨h.1.step hb, h.2.keep (KeepsFrom.below hb)⟩) (fun pre W h => h.1.2.2.1) ?round W1 (w.heap.size + 3) (hbox.step hb1) (hw0.trans (hb1.mono hw0.size)) ⟨hI0.step hb1, hrec⟩).mono ?after)
    case after =>
      rintro e W2 ⟨hv, ⟨xs, h1, h2, h3⟩ | ⟨xs, h1, h2, h3⟩⟩
      · exact ⟨hv, .inl ⟨⟨xs, by rw [h1, hxt], h2⟩, h3⟩⟩
      · exact ⟨hv, .inr ⟨.ret, ⟨rfl, xs, by rw [← hxt]; exact h1, h2⟩, h3⟩⟩
    case round =>
      rintro pre y W ⟨hI, hr⟩ hpre hbw
      obtain ⟨B1, m1, g1, B2, m2, g2, B3, m3, g3, e1, e2, e3⟩ := y.hq.form
      obtain ⟨B4, g4, e4, _⟩ := id y.hv
      have hyv : y.val = .agg #[.int .i64 y.s, .slice B4 (bs y.nm).length g4, .int .i64 y.q.k, .slice B1 m1 g1, .slice B2 m2 g2, .slice B3 m3 g3] := by rw [Nd.val, e1, e2, e3, e4]
      rw [hyv]
      refine YieldAt.mono (oneRound (F := Fence.wide) (m := 0) (M := fun a' Wa => ∃ Bx, w.heap.size + 3 < Bx ∧ C6 Wa Bx (.int .i64 y.s) (.slice B4 (bs y.nm).length g4) (.int .i64 y.q.k) (.slice B1 m1 g1) (.slice B2 m2 g2) (.slice B3 m3 g3) ∧ TokI w pre Wa ∧ Holds w.heap.size W Wa ∧ a' = { tmps := #[.agg #[.int .i64 q.k, .slice A n c, .slice A' n' c', .slice A'' n'' c''], .pointer (some ⟨w.heap.size, 0, none⟩), .pointer (some ⟨w.heap.size + 1, 0, none⟩), .pointer (some ⟨w.heap.size + 1 + 1, 0, none⟩), .pointer (some ⟨Bx, 0, none⟩), .agg #[.int .i64 q.k, .slice A n c, .slice A' n' c', .slice A'' n'' c''], .func (.func 96) #[] #[.pointer (some ⟨w.heap.size + 3, 0, none⟩)], .agg #[.int .i64 y.s, .slice B4 (bs y.nm).length g4, .int .i64 y.q.k, .slice B1 m1 g1, .slice B2 m2 g2, .slice B3 m3 g3], undef, undef, undef, undef, undef, undef, undef, undef, undef, undef, undef, undef, undef, undef, undef], defers := [] })
        (T := fun W' => TokI w (pre ++ [y]) W' ∧ Holds w.heap.size W W') (X := fun c W' => c = .ret ∧ TokX w (pre ++ [y]) W') hfn hr (by rw [hps]; rfl) ?assign ?body) ?post
      case post =>
        rintro e W' (⟨rfl, ⟨h1, h2⟩, h3⟩ | ⟨rfl, c, ⟨rfl, h1⟩, h3⟩)
        · exact .inl ⟨rfl, ⟨h1, h3⟩, h2⟩
        · exact .inr ⟨rfl, h1, h3⟩
      case assign =>
        have bal := boxed6 W (.int .i64 y.s) (.slice B4 (bs y.nm).length g4) (.int .i64 y.q.k) (.slice B1 m1 g1) (.slice B2 m2 g2) (.slice B3 m3 g3)
        have HIr := hide hI
        have hWz : w.heap.size + 3 < W.heap.size := by have := hr.lt; omega
        have HBal := hide bal
        rw [has, htm, hps]
        clear hbd has htm hps hxt hr hpre hbw hI bal hrec hb1 hz1 hI0
        gi_wp2
        obtain ⟨wa', hwa', hc6, hba, hza⟩ := HBal.out
        rw [hwa']
        exact ⟨KeepsFrom.below hba, _, hWz, hc6, HIr.out.step hba, Holds.of_below hba HIr.out.2.2.2.2.size, rfl⟩
      case body =>
        rintro a' Wa ⟨Bx, hBx, hbx, hIa, hHa, rfl⟩ hra Wb hWb
        have hrb : RecAt Wb W0.heap.size r .busy none := by rw [hWb]; exact hra.put .busy none
        have hIb : TokI w pre Wb := by rw [hWb]; exact hIa.put hra.rcd (by omega) _
        have hbxb : C6 Wb Bx (.int .i64 y.s) (.slice B4 (bs y.nm).length g4) (.int .i64 y.q.k) (.slice B1 m1 g1) (.slice B2 m2 g2) (.slice B3 m3 g3) := by rw [hWb]; exact hbx.put hra.rcd _
        have hHb : Holds w.heap.size W Wb := by rw [hWb]; exact hHa.trans (Holds.put hra.rcd (by omega) _)
        have hcall := fun W' (hb : Below w.heap.size w W') => implNodeOk y.t y.ht y.q W' (y.hq.below hb)
        rw [show y.q.val = .agg #[.int .i64 y.q.k, .slice B1 m1 g1, .slice B2 m2 g2, .slice B3 m3 g3] by rw [← e1, ← e2, ← e3]] at hcall
        obtain ⟨L, hL⟩ : ∃ L, pre.length = L := ⟨_, rfl⟩
        obtain ⟨hC, hR, hgood, hL40, hbw2⟩ := hIb
        rw [hL] at hC hL40
        -- the counter is one more
        obtain ⟨Wc, hWc⟩ : ∃ Wc, Wb.setCell ⟨w.heap.size + 1 + 1, 0, none⟩ (.int .i64 ((L : Int) + 1)) = Wc := ⟨_, rfl⟩
        have hC1 : Boxed Wc (w.heap.size + 1 + 1) 3 (.int .i64 ((L : Int) + 1)) := by rw [← hWc]; exact hC.set _
        have hR1 : Boxed Wc (w.heap.size + 1) 4 (.bool false) := by rw [← hWc]; exact hR.other (by omega) _
        have hH1 : Holds w.heap.size Wb Wc := by rw [← hWc]; exact Holds.box hC (by decide) (by decide) (by omega) _
        have hK1 : KeepsFrom W0.heap.size Wb Wc := by rw [← hWc]; exact (KeepsOthers.setCell _ _ _).from _
        have hX1 := hbxb.holds hH1
        have hb1' := hbw2.trans hH1.below
        have hcell := hC.cell
        have hfz := hC.frozen
        have rcell := hR.cell
        have hne1 : Bx ≠ w.heap.size + 1 + 1 := by omega
        have hne2 : Bx ≠ w.heap.size + 1 := by omega
        have rfz := hR.frozen
        have x0 := hbxb.c0
        have x2 := hbxb.c2
        have x3 := hbxb.c3
        have x4 := hbxb.c4
        have x5 := hbxb.c5
        have hRB := hrb.keep hK1
        have hHW := hHb.trans hH1
        have hlen : (pre ++ [y]).length = L + 1 := by rw [List.length_append, hL]; rfl
        have HCALL := hide (hcall Wc hb1')
        obtain ⟨RR, hRR⟩ : ∃ RR : World → Prop, RR = fun W' => KeepsFrom W0.heap.size Wb W' ∧ TokX w (pre ++ [y]) (W'.putObj (W0.heap.size + 1) (.loop { r with state := .done, pending := some .ret })) := ⟨_, rfl⟩
        obtain ⟨NN, hNN⟩ : ∃ NN : World → Prop, NN = fun W' => KeepsFrom W0.heap.size Wb W' ∧ TokI w (pre ++ [y]) (W'.putObj (W0.heap.size + 1) (.loop { r with state := .ready, pending := none })) ∧ Holds w.heap.size W (W'.putObj (W0.heap.size + 1) (.loop { r with state := .ready, pending := none })) := ⟨_, rfl⟩
        have fin : ∀ W', Below Wc.heap.size Wc W' → (¬ y.good ∨ 40 < L + 1) → RR (W'.setCell ⟨w.heap.size + 1, 0, none⟩ (.bool false)) := fun W' hb hbad => by
          have hR2 : Boxed W' (w.heap.size + 1) 4 (.bool false) := (hb.block _ hR1.lt).trans hR1
          have hk2 : KeepsFrom W0.heap.size Wc (W'.setCell ⟨w.heap.size + 1, 0, none⟩ (.bool false)) := (KeepsFrom.below hb).trans ((KeepsOthers.setCell _ _ _).from _)
          have hx : TokX w (pre ++ [y]) (W'.setCell ⟨w.heap.size + 1, 0, none⟩ (.bool false)) := ⟨hR2.set _, hbad.elim (fun h => .inl ⟨y, by simp, h⟩) (fun h => .inr (by omega)), (hb1'.trans (hb.mono hb1'.size)).setCell (p := ⟨w.heap.size + 1, 0, none⟩) (by dsimp only; omega) _⟩
          rw [hRR]
          exact ⟨hK1.trans hk2, hx.put (hRB.keep hk2).rcd (by omega) _⟩
        have norm : ∀ W', Below Wc.heap.size Wc W' → y.good → L + 1 ≤ 40 → NN W' := fun W' hb hg hl => by
          have hk2 : KeepsFrom W0.heap.size Wc W' := KeepsFrom.below hb
          have hi : TokI w (pre ++ [y]) W' := by
            refine ⟨?_, (hb.block _ hR1.lt).trans hR1, fun z hz => ?_, by omega, hb1'.trans (hb.mono hb1'.size)⟩
            · rw [hlen]
              exact (hb.block _ hC1.lt).trans hC1
            · rcases List.mem_append.1 hz with hz | hz
              · exact hgood z hz
              · obtain rfl := List.mem_singleton.1 hz
                exact hg
          have hr2 := (hRB.keep hk2).rcd
          rw [hNN]
          exact ⟨hK1.trans hk2, hi.put hr2 (by omega) _, (hHW.trans (Holds.of_below hb hb1'.size)).trans (Holds.put hr2 (by omega) _)⟩
        refine wpIn_mono (Q := fun e _ W' => (e = .ret ∧ RR W') ∨ (e = .normal ∧ NN W')) ?walk ?weak
        case weak =>
          rintro e a W' (⟨rfl, h⟩ | ⟨rfl, h⟩)
          · rw [hRR] at h
            exact ⟨h.1, rfl, h.2⟩
          · rw [hNN] at h
            exact h
        case walk =>
          have HWC := hide hWc
          have hrc : ∀ W', Below Wc.heap.size Wc W' → Boxed W' (w.heap.size + 1) 4 (.bool false) := fun W' hb => (hb.block _ hR1.lt).trans hR1
          have HRC := hide hrc
          clear hrc
          have FIN := hide fin
          have NORM := hide norm
          have HGD : Hid (y.good ↔ (y.s < 4 ∧ y.t.nodeOk = true)) := hide Iff.rfl
          rw [hbd]
          clear hbd has htm hps hxt hr hpre hbw hI hrec hb1 hz1 hI0 hWb hrb hbxb hHb hbx hIa hHa hra hgood hbw2 hL hC hR hC1 hR1 hH1 hK1 hX1 hb1' hcall hyv e1 e2 e3 e4 hWc fin norm hRR hNN hRB hHW hlen zz hx hqv hbox hw0 HN
          by_cases h40 : (40 : Int) < (L : Int) + 1
          · gi_wp2
            refine ⟨trivial, ?_⟩
            gi_wp2
            rw [HWC.out]
            exact FIN.out Wc (Below.refl _ _) (.inr (by omega))
          · have hL39 : L + 1 ≤ 40 := by omega
            by_cases h4 : (4 : Int) ≤ (y.s : Int)
            · gi_wp2
              refine ⟨trivial, ?_⟩
              gi_wp2
              rw [HWC.out]
              exact FIN.out Wc (Below.refl _ _) (.inl (fun h => by have := (HGD.out.1 h).1; omega))
            · gi_wp2
              refine ⟨trivial, rfl, ?_⟩
              rw [HWC.out]
              refine (CallsIn.inRound _ (callsIn_wide.2 HCALL.out)).mono ?_
              rintro e w5 ⟨rfl, b5⟩
              have r5 := HRC.out w5 b5
              have rc5 := r5.cell
              have rf5 := r5.frozen
              cases hok : y.t.nodeOk with
              | false =>
                have f5 := FIN.out w5 b5 (.inl (fun h => by have := (HGD.out.1 h).2; rw [hok] at this; cases this))
                have F5 := hide f5
                clear f5
                gi_wp2
                exact F5.out
              | true =>
                have f5 := NORM.out w5 b5 (HGD.out.2 ⟨by omega, hok⟩) hL39
                have F5 := hide f5
                clear f5
                gi_wp2
                exact F5.out
  case done =>
    rintro W2 r st pe ⟨xs, h1, hI⟩ hrec W3 hW3 hK
    have hI3 : TokI w xs W3 := by rw [hW3]; exact hI.put hrec.rcd (by omega) _
    obtain ⟨_, hR3, hg3, hl3, hb3⟩ := hI3
    have hok := treeOk_yes h1 hg3 hl3
    have rc := hR3.cell
    have rf := hR3.frozen
    have HK := hide hK
    have HR3 := hide hR3
    have HB3 := hide hb3
    have HOK := hide hok
    clear hW3 hrec hI hK hb3 hg3 hl3 hR3 hok hI0 hx hqv HN hbox hw0
    gi_wp2
    have hk4 : (W3.setCell ⟨w.heap.size + 1, 0, none⟩ (.bool true)).heap[W0.heap.size]? = some (.deferred (some [])) := ((KeepsOthers.setCell W3 ⟨w.heap.size + 1, 0, none⟩ (.bool true)).from 0).same _ _ (Nat.zero_le _) HK.out rfl
    refine ⟨by simp, .inl ⟨_, _, rfl, run_takeDeferred hk4, ?_⟩⟩
    have hs4 := HR3.out.set (.bool true)
    have hc5 := Boxed.cell ((World.putObj_heap_other (o := .deferred none) (by omega : w.heap.size + 1 ≠ W0.heap.size)).trans hs4)
    refine ⟨.bool true, ?_, by rw [HOK.out], (HB3.out.setCell (p := ⟨w.heap.size + 1, 0, none⟩) (by dsimp only; omega) _).trans (belowK_b (w := w) (Nat.le_refl _) _ W0.heap.size _ _ (by omega) hk4 rfl rfl)⟩
    simp [results, Tryd.f36, go_sem, hc5]
  case stop =>
    rintro W2 r st pe c ⟨rfl, xs, h1, hX⟩ hrec W3 hW3 hK
    have hX3 : TokX w xs W3 := by rw [hW3]; exact hX.put hrec.rcd (by omega) _
    obtain ⟨hR3, hbad, hb3⟩ := hX3
    have hok := treeOk_no h1 (by simpa using hbad)
    have HK := hide hK
    have HR3 := hide hR3
    have HB3 := hide hb3
    have HOK := hide hok
    clear hW3 hrec hX hK hb3 hbad hR3 hok hI0 hx hqv HN hbox hw0
    gi_wp2
    refine ⟨by simp, .inl ⟨_, _, rfl, run_takeDeferred HK.out, ?_⟩⟩
    have hc5 := Boxed.cell ((World.putObj_heap_other (o := .deferred none) (by omega : w.heap.size + 1 ≠ W0.heap.size)).trans HR3.out)
    refine ⟨.bool false, ?_, by rw [HOK.out], HB3.out.trans (belowK_b (w := w) (Nat.le_refl _) _ W0.heap.size _ _ (by omega) HK.out rfl rfl)⟩
    simp [results, Tryd.f36, go_sem, hc5]

end Go.Proofs.YtigklnokgmcifaaDoor
