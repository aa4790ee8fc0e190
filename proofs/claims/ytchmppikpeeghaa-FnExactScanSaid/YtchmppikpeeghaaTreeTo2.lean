/-
  The laws' copies of trees.
-/
import Derived.Test.YtchmppikpeeghaaTreeTo
import Derived.Deep.MidRow
namespace Go.Proofs.Ytchmppikpeeghaa
open Go.RowKit
set_option linter.unusedVariables false

def Q.cells (q : Q) : List Value := [.int .i64 q.k, q.d, q.n, q.c]
def qcells : List Q → List Value
  | [] => []
  | q :: r => q.cells ++ qcells r
theorem qcells_len (qs : List Q) : (qcells qs).length = 4 * qs.length := by
  induction qs with
  | nil => rfl
  | cons q r ih => rw [qcells, List.length_append, ih]; simp [Q.cells]; omega
theorem qcells_app (a b : List Q) : qcells (a ++ b) = qcells a ++ qcells b := by
  induction a with
  | nil => rfl
  | cons q r ih => rw [List.cons_append, qcells, ih, qcells, List.append_assoc]
theorem qcells_get : ∀ {qs : List Q} {i : Nat} {q : Q}, qs[i]? = some q → (qcells qs)[4 * i]? = some (.int .i64 q.k) ∧ (qcells qs)[4 * i + 1]? = some q.d ∧ (qcells qs)[4 * i + 2]? = some q.n ∧ (qcells qs)[4 * i + 3]? = some q.c
  | [], i, q, h => by simp at h
  | q0 :: r, 0, q, h => by
    simp at h
    subst h
    exact ⟨rfl, rfl, rfl, rfl⟩
  | q0 :: r, i + 1, q, h => by
    have := qcells_get (qs := r) (i := i) (q := q) (by simpa using h)
    have e : ∀ j, (qcells (q0 :: r))[4 * (i + 1) + j]? = (qcells r)[4 * i + j]? := fun j => by
      rw [qcells, List.getElem?_append_right (by simp [Q.cells]; omega)]
      congr 1
      simp [Q.cells]
      omega
    exact ⟨(e 0).trans this.1, (e 1).trans this.2.1, (e 2).trans this.2.2.1, (e 3).trans this.2.2.2⟩
def q0 : Q := ⟨0, .slice none 0 0, .slice none 0 0, .slice none 0 0⟩
theorem made_q0 (n : Nat) : (madeCells #[.int .i64 0, .slice none 0 0, .slice none 0 0, .slice none 0 0] (n * 4)).toList = qcells (List.replicate n q0) := by
  apply List.ext_getElem?
  intro j
  by_cases hj : j < n * 4
  · obtain ⟨h0, h1, h2, h3⟩ := qcells_get (qs := List.replicate n q0) (i := j / 4) (q := q0) (by rw [List.getElem?_replicate, if_pos (by omega)])
    have e : (madeCells #[.int .i64 0, .slice none 0 0, .slice none 0 0, .slice none 0 0] (n * 4)).toList[j]? = some ((#[.int .i64 0, .slice none 0 0, .slice none 0 0, .slice none 0 0] : Array Value)[j % 4]!) := by
      simp [madeCells, hj]
    rw [e]
    rcases (by omega : j % 4 = 0 ∨ j % 4 = 1 ∨ j % 4 = 2 ∨ j % 4 = 3) with h | h | h | h
    · rw [h]; have e2 : 4 * (j / 4) = j := by omega
      rw [e2] at h0; rw [h0]; rfl
    · rw [h]; have e2 : 4 * (j / 4) + 1 = j := by omega
      rw [e2] at h1; rw [h1]; rfl
    · rw [h]; have e2 : 4 * (j / 4) + 2 = j := by omega
      rw [e2] at h2; rw [h2]; rfl
    · rw [h]; have e2 : 4 * (j / 4) + 3 = j := by omega
      rw [e2] at h3; rw [h3]; rfl
  · rw [List.getElem?_eq_none (by simp [madeCells]; omega), List.getElem?_eq_none (by rw [qcells_len, List.length_replicate]; omega)]
theorem set_at {α : Type} (a : List α) (x y : α) (b : List α) (j : Nat) (h : j = a.length) : (a ++ x :: b).set j y = a ++ y :: b := by
  subst h
  rw [List.set_append, if_neg (by omega), Nat.sub_self, List.set_cons_zero]
theorem qslots_set (us : List Q) (n : Nat) (q : Q) (h : us.length < n) :
    ((((qcells (us ++ List.replicate (n - us.length) q0)).set (4 * us.length) (.int .i64 q.k)).set (4 * us.length + 1) q.d).set (4 * us.length + 2) q.n).set (4 * us.length + 3) q.c = qcells ((us ++ [q]) ++ List.replicate (n - (us ++ [q]).length) q0) := by
  have e : n - us.length = (n - (us ++ [q]).length) + 1 := by simp; omega
  have hl := qcells_len us
  rw [e, List.replicate_succ, qcells_app, qcells]
  have e1 : qcells us ++ (q0.cells ++ qcells (List.replicate (n - (us ++ [q]).length) q0)) = qcells us ++ (.int .i64 0 :: .slice none 0 0 :: .slice none 0 0 :: .slice none 0 0 :: qcells (List.replicate (n - (us ++ [q]).length) q0)) := rfl
  rw [e1, set_at _ _ _ _ _ hl.symm]
  rw [show qcells us ++ (.int .i64 q.k :: .slice none 0 0 :: .slice none 0 0 :: .slice none 0 0 :: qcells (List.replicate (n - (us ++ [q]).length) q0)) = (qcells us ++ [.int .i64 q.k]) ++ (.slice none 0 0 :: .slice none 0 0 :: .slice none 0 0 :: qcells (List.replicate (n - (us ++ [q]).length) q0)) by simp, set_at _ _ _ _ _ (by simp [hl])]
  rw [show (qcells us ++ [.int .i64 q.k]) ++ (q.d :: .slice none 0 0 :: .slice none 0 0 :: qcells (List.replicate (n - (us ++ [q]).length) q0)) = (qcells us ++ [.int .i64 q.k, q.d]) ++ (.slice none 0 0 :: .slice none 0 0 :: qcells (List.replicate (n - (us ++ [q]).length) q0)) by simp, set_at _ _ _ _ _ (by simp [hl])]
  rw [show (qcells us ++ [.int .i64 q.k, q.d]) ++ (q.n :: .slice none 0 0 :: qcells (List.replicate (n - (us ++ [q]).length) q0)) = (qcells us ++ [.int .i64 q.k, q.d, q.n]) ++ (.slice none 0 0 :: qcells (List.replicate (n - (us ++ [q]).length) q0)) by simp, set_at _ _ _ _ _ (by simp [hl])]
  simp [qcells_app, qcells, Q.cells]

/-- A slice of trees' cells in a block of its own. -/
def Own4 (lo hi : Nat) (w : World) (v : Value) (qs : List Q) : Prop := w.ownsRow lo 31 4 v qs.length (qcells qs) ∧ hi ≤ w.heap.size ∧ ∀ g, v.ownBlock = some g → g < hi
theorem Own4.rd {lo hi : Nat} {w : World} {v : Value} {qs : List Q} (h : Own4 lo hi w v qs) : Rd4 w v qs := by
  obtain ⟨h1, h2, h3⟩ := h
  rcases id h1.2 with ⟨rfl, hn⟩ | ⟨g, cap, cur, rfl, hb, hg, hnc, hcm, hcs, ht⟩
  · have hx : qs = [] := List.eq_nil_of_length_eq_zero hn
    subst hx
    exact ⟨none, 0, rfl, Nat.le_refl _, Nat.zero_le _, fun h => by simp at h⟩
  · refine ⟨_, cap, rfl, hnc, hcm, fun hp => ⟨g, 0, rfl, Nat.lt_of_lt_of_le (h3 g rfl) h2, fun i q hq => ?_⟩⟩
    have hi : i < qs.length := (List.getElem?_eq_some_iff.1 hq).1
    obtain ⟨e0, e1, e2, e3⟩ := qcells_get hq
    simp only [Nat.zero_add]
    exact ⟨(h1.cellAt (4 * i) (by omega)).trans e0, (h1.cellAt (4 * i + 1) (by omega)).trans e1, (h1.cellAt (4 * i + 2) (by omega)).trans e2, (h1.cellAt (4 * i + 3) (by omega)).trans e3⟩
theorem Own4.out {lo hi lo' hi' : Nat} {w w' : World} {v : Value} {qs : List Q} (h : Own4 lo hi w v qs) (ho : Outside lo' hi' w w') (hd : hi ≤ lo' ∨ hi' ≤ lo) : Own4 lo hi w' v qs := by
  obtain ⟨h1, h2, h3⟩ := h
  refine ⟨⟨h1.1, ?_⟩, Nat.le_trans h2 ho.size, h3⟩
  rcases h1.2 with hn | ⟨g, cap, cur, rfl, hbg, hg, rest⟩
  · exact .inl hn
  · have hlt := h3 g rfl
    exact .inr ⟨g, cap, cur, rfl, hbg, by rw [ho.block g (by omega) (by omega)]; exact hg, rest⟩

mutual
/-- A tree all of whose blocks are its own, one behind the other. -/
def TOwn (w : World) : T → Nat → Q → Nat → Prop
  | .node k d ns ks, lo, q, hi => q.k = k ∧ ∃ m1 m2 m3 qs, lo ≤ m1 ∧ m2 ≤ m3 ∧ Own 5 lo m1 w q.d (bs d) ∧ OwnN m1 m2 w q.n ns ∧ Own4 m2 m3 w q.c qs ∧ TChain w ks m3 qs hi
def TChain (w : World) : List T → Nat → List Q → Nat → Prop
  | [], lo, qs, hi => qs = [] ∧ lo ≤ hi
  | t :: ts, lo, qs, hi => ∃ q r m, qs = q :: r ∧ TOwn w t lo q m ∧ lo ≤ m ∧ TChain w ts m r hi
end
theorem TChain.le {w : World} : ∀ {ts : List T} {lo : Nat} {qs : List Q} {hi : Nat}, TChain w ts lo qs hi → lo ≤ hi
  | [], lo, qs, hi, h => by rw [TChain] at h; exact h.2
  | t :: ts, lo, qs, hi, h => by
    rw [TChain] at h
    obtain ⟨q, r, m, _, _, hm, h⟩ := h
    exact Nat.le_trans hm h.le
theorem TChain.len {w : World} : ∀ {ts : List T} {lo : Nat} {qs : List Q} {hi : Nat}, TChain w ts lo qs hi → qs.length = ts.length
  | [], lo, qs, hi, h => by rw [TChain] at h; rw [h.1]; rfl
  | t :: ts, lo, qs, hi, h => by
    rw [TChain] at h
    obtain ⟨q, r, m, rfl, _, _, h⟩ := h
    simp [h.len]
theorem TChain.mem {w : World} : ∀ {ts : List T} {lo : Nat} {qs : List Q} {hi : Nat}, TChain w ts lo qs hi → ∀ (i : Nat) (t : T), ts[i]? = some t → ∃ q a b, qs[i]? = some q ∧ TOwn w t a q b ∧ lo ≤ a ∧ b ≤ hi
  | [], lo, qs, hi, h, i, t, ht => by simp at ht
  | t0 :: ts, lo, qs, hi, h, i, t, ht => by
    rw [TChain] at h
    obtain ⟨q, r, m, rfl, ho, hm, h⟩ := h
    cases i with
    | zero =>
      simp at ht
      subst ht
      exact ⟨q, lo, m, rfl, ho, Nat.le_refl _, h.le⟩
    | succ i =>
      obtain ⟨q', a, b, h1, h2, h3, h4⟩ := h.mem i t (by simpa using ht)
      exact ⟨q', a, b, by simpa using h1, h2, by omega, h4⟩
theorem TOwn.le {w : World} {t : T} {lo : Nat} {q : Q} {hi : Nat} (h : TOwn w t lo q hi) : lo ≤ hi := by
  cases t with
  | node k d ns ks =>
    rw [TOwn] at h
    obtain ⟨_, m1, m2, m3, qs, h1, h2, _, hN, _, hC⟩ := h
    have := hN.le
    have := hC.le
    omega
theorem TOwn.rd {w : World} : ∀ {t : T} {lo : Nat} {q : Q} {hi : Nat}, TOwn w t lo q hi → TIn w t q := by
  intro t
  induction t using T.ind with
  | h k d ns ks ih =>
    intro lo q hi h
    rw [TOwn] at h
    rw [TIn]
    obtain ⟨h1, m1, m2, m3, qs, h2, h3, h4, h5, h6, h7⟩ := h
    refine ⟨h1, h4.rd, h5.rd, qs, h6.rd, TIns.mk h7.len fun i t q ht hq => ?_⟩
    obtain ⟨q', a, b, e1, e2, _, _⟩ := h7.mem i t ht
    obtain rfl : q' = q := Option.some.inj (e1.symm.trans hq)
    exact ih t (List.mem_of_getElem? ht) e2
theorem TOwn.lower {w : World} {t : T} {lo lo2 : Nat} {q : Q} {hi : Nat} (h : TOwn w t lo q hi) (hl : lo2 ≤ lo) : TOwn w t lo2 q hi := by
  cases t with
  | node k d ns ks =>
    rw [TOwn] at h ⊢
    obtain ⟨h1, m1, m2, m3, qs, h2, h3, h4, h5⟩ := h
    exact ⟨h1, m1, m2, m3, qs, by omega, h3, h4.wide hl (Nat.le_refl _) h4.2.1, h5⟩
theorem TOwn.out {w w' : World} {lo' hi' : Nat} (ho : Outside lo' hi' w w') : ∀ {t : T} {lo : Nat} {q : Q} {hi : Nat}, TOwn w t lo q hi → hi' ≤ lo → TOwn w' t lo q hi := by
  intro t
  induction t using T.ind with
  | h k d ns ks ih =>
    intro lo q hi h hd
    rw [TOwn] at h ⊢
    obtain ⟨h1, m1, m2, m3, qs, h2, h3, h4, h5, h6, h7⟩ := h
    have h5l := h5.le
    have key : ∀ (ts : List T) (lo2 : Nat) (rs : List Q) (hi2 : Nat), (∀ t ∈ ts, t ∈ ks) → TChain w ts lo2 rs hi2 → hi' ≤ lo2 → TChain w' ts lo2 rs hi2 := by
      intro ts
      induction ts with
      | nil => intro lo2 rs hi2 _ h _; rw [TChain] at h ⊢; exact h
      | cons t ts iht =>
        intro lo2 rs hi2 hm h hd2
        rw [TChain] at h ⊢
        obtain ⟨q1, r, m, e, o, hmm, h⟩ := h
        exact ⟨q1, r, m, e, ih t (hm t (List.mem_cons_self ..)) o hd2, hmm, iht m r hi2 (fun t ht => hm t (List.mem_cons_of_mem _ ht)) h (by omega)⟩
    exact ⟨h1, m1, m2, m3, qs, h2, h3, h4.outside ho (.inr hd), h5.out ho (by omega), h6.out ho (.inr (by omega)), key ks m3 qs hi (fun t ht => ht) h7 (by omega)⟩
theorem TChain.out {w w' : World} {lo' hi' : Nat} (ho : Outside lo' hi' w w') : ∀ {ts : List T} {lo : Nat} {qs : List Q} {hi : Nat}, TChain w ts lo qs hi → hi' ≤ lo → TChain w' ts lo qs hi
  | [], lo, qs, hi, h, _ => by rw [TChain] at h ⊢; exact h
  | t :: ts, lo, qs, hi, h, hd => by
    rw [TChain] at h ⊢
    obtain ⟨q1, r, m, e, o, hmm, h⟩ := h
    exact ⟨q1, r, m, e, o.out ho hd, hmm, h.out ho (by omega)⟩
theorem TOwn.step {w w' : World} {t : T} {lo : Nat} {q : Q} {hi : Nat} (h : TOwn w t lo q hi) (hb : Below w.heap.size w w') : TOwn w' t lo q hi := h.out (Outside.of_below hb 0 0) (Nat.zero_le _)
theorem TChain.step {w w' : World} {ts : List T} {lo : Nat} {qs : List Q} {hi : Nat} (h : TChain w ts lo qs hi) (hb : Below w.heap.size w w') : TChain w' ts lo qs hi := h.out (Outside.of_below hb 0 0) (Nat.zero_le _)
theorem TChain.snoc {w : World} {t : T} {q : Q} {hi' : Nat} : ∀ {ts : List T} {lo : Nat} {qs : List Q} {hi : Nat}, TChain w ts lo qs hi → TOwn w t hi q hi' → TChain w (ts ++ [t]) lo (qs ++ [q]) hi'
  | [], lo, qs, hi, h, ho => by
    rw [TChain] at h
    obtain ⟨rfl, hl⟩ := h
    have hle := ho.le
    rw [List.nil_append, TChain]
    exact ⟨q, [], hi', rfl, ho.lower hl, by omega, by rw [TChain]; exact ⟨rfl, Nat.le_refl _⟩⟩
  | t0 :: ts, lo, qs, hi, h, ho => by
    rw [TChain] at h
    obtain ⟨q1, r, m, rfl, o, hm, h⟩ := h
    rw [List.cons_append, TChain]
    exact ⟨q1, r ++ [q], m, rfl, o, hm, h.snoc ho⟩

end Go.Proofs.Ytchmppikpeeghaa
