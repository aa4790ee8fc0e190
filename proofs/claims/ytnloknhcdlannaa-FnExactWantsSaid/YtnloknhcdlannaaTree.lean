
/-
  Trees: as they are, and as they lie in memory.
-/
import Derived.Test.YtnloknhcdlannaaBytes
import Derived.Test.YtnloknhcdlannaaOwn
import Derived.Deep.MidRow
namespace Go.Proofs.Ytnloknhcdlannaa
open Go.RowKit
set_option linter.unusedVariables false

inductive T where
  | node (k : Int) (d : List Int) (ns : List (List Int)) (ks : List T)
def T.kind : T → Int | .node k _ _ _ => k
def T.data : T → List Int | .node _ d _ _ => d
def T.names : T → List (List Int) | .node _ _ ns _ => ns
def T.kids : T → List T | .node _ _ _ ks => ks
theorem T.ind {P : T → Prop} (h : ∀ k d ns ks, (∀ t ∈ ks, P t) → P (.node k d ns ks)) : ∀ t, P t
  | .node k d ns ks => h k d ns ks fun t ht => T.ind h t
termination_by t => SizeOf.sizeOf t
decreasing_by
  have := List.sizeOf_lt_of_mem ht
  simp
  omega

/-- The four cells of a tree. -/
structure Q where
  k : Int
  d : Value
  n : Value
  c : Value
@[reducible] def Q.val (q : Q) : Value := .agg #[.int .i64 q.k, q.d, q.n, q.c]

/-- A slice whose elements are trees' cells. -/
def Rd4 (w : World) (v : Value) (qs : List Q) : Prop :=
  ∃ A c, v = .slice A qs.length c ∧ qs.length ≤ c ∧ c ≤ maxLen ∧
    (0 < qs.length → ∃ b off, A = some ⟨b, off, none⟩ ∧ b < w.heap.size ∧ ∀ i q, qs[i]? = some q →
      w.cell? ⟨b, off + 4 * i, none⟩ = some (.int .i64 q.k) ∧ w.cell? ⟨b, off + (4 * i + 1), none⟩ = some q.d ∧ w.cell? ⟨b, off + (4 * i + 2), none⟩ = some q.n ∧ w.cell? ⟨b, off + (4 * i + 3), none⟩ = some q.c)
theorem Rd4.below {w w' : World} {v : Value} {qs : List Q} (h : Rd4 w v qs) (hb : Below w.heap.size w w') : Rd4 w' v qs := by
  obtain ⟨A, c, rfl, h1, h2, h3⟩ := h
  refine ⟨A, c, rfl, h1, h2, fun hp => ?_⟩
  obtain ⟨b, off, rfl, hlt, hc⟩ := h3 hp
  refine ⟨b, off, rfl, Nat.lt_of_lt_of_le hlt hb.size, fun i q hq => ?_⟩
  obtain ⟨c0, c1, c2, c3⟩ := hc i q hq
  exact ⟨(hb.cell (p := ⟨b, off + 4 * i, none⟩) hlt).trans c0, (hb.cell (p := ⟨b, off + (4 * i + 1), none⟩) hlt).trans c1, (hb.cell (p := ⟨b, off + (4 * i + 2), none⟩) hlt).trans c2, (hb.cell (p := ⟨b, off + (4 * i + 3), none⟩) hlt).trans c3⟩

/-- A slice of slices of bytes. -/
def RdN (w : World) (v : Value) (ns : List (List Int)) : Prop := ∃ vs : List Value, Rd w v vs ∧ vs.length = ns.length ∧ ∀ i u, vs[i]? = some u → Rd w u (bs (ns.getD i []))
theorem RdN.below {w w' : World} {v : Value} {ns : List (List Int)} (h : RdN w v ns) (hb : Below w.heap.size w w') : RdN w' v ns := by
  obtain ⟨vs, h1, h2, h3⟩ := h
  exact ⟨vs, h1.below hb, h2, fun i u hu => (h3 i u hu).below hb⟩

mutual
/-- The cells q are those of the tree t. -/
def TIn (w : World) : T → Q → Prop
  | .node k d ns ks, q => q.k = k ∧ Rd w q.d (bs d) ∧ RdN w q.n ns ∧ ∃ qs, Rd4 w q.c qs ∧ TIns w ks qs
def TIns (w : World) : List T → List Q → Prop
  | [], qs => qs = []
  | t :: ts, qs => ∃ q r, qs = q :: r ∧ TIn w t q ∧ TIns w ts r
end
theorem TIns.len {w : World} : ∀ {ts : List T} {qs : List Q}, TIns w ts qs → qs.length = ts.length
  | [], qs, h => by rw [TIns] at h; rw [h]; rfl
  | t :: ts, qs, h => by
    rw [TIns] at h
    obtain ⟨q, r, rfl, _, hr⟩ := h
    simp [TIns.len hr]
theorem TIns.at_ {w : World} : ∀ {ts : List T} {qs : List Q}, TIns w ts qs → ∀ (i : Nat) (t : T), ts[i]? = some t → ∃ q, qs[i]? = some q ∧ TIn w t q
  | [], _, _, i, t, ht => by simp at ht
  | t0 :: ts, qs, h, i, t, ht => by
    rw [TIns] at h
    obtain ⟨q, r, rfl, hq, hr⟩ := h
    cases i with
    | zero =>
      simp at ht
      subst ht
      exact ⟨q, rfl, hq⟩
    | succ i => exact TIns.at_ hr i t (by simpa using ht)
theorem TIns.mk {w : World} : ∀ {ts : List T} {qs : List Q}, qs.length = ts.length → (∀ (i : Nat) (t : T) (q : Q), ts[i]? = some t → qs[i]? = some q → TIn w t q) → TIns w ts qs
  | [], qs, h, _ => by rw [TIns]; exact List.eq_nil_of_length_eq_zero h
  | t :: ts, [], h, _ => by simp at h
  | t :: ts, q :: r, h, hh => by
    rw [TIns]
    exact ⟨q, r, rfl, hh 0 t q rfl rfl, TIns.mk (by simpa using h) fun i t q h1 h2 => hh (i + 1) t q (by simpa using h1) (by simpa using h2)⟩
theorem TIn.below {w w' : World} (hb : Below w.heap.size w w') : ∀ {t : T} {q : Q}, TIn w t q → TIn w' t q := by
  intro t
  induction t using T.ind with
  | h k d ns ks ih =>
    intro q h
    rw [TIn] at h ⊢
    obtain ⟨h1, h2, h3, qs, h4, h5⟩ := h
    refine ⟨h1, h2.below hb, h3.below hb, qs, h4.below hb, TIns.mk h5.len fun i t q h6 h7 => ?_⟩
    obtain ⟨q', h8, h9⟩ := h5.at_ i t h6
    obtain rfl : q' = q := Option.some.inj (h8.symm.trans h7)
    exact ih t (List.mem_of_getElem? h6) h9

/-- All numbers are bytes. -/
def BytN (ns : List (List Int)) : Prop := ∀ n ∈ ns, Byt n
mutual
def T.Byts : T → Prop
  | .node _ d ns ks => Byt d ∧ BytN ns ∧ T.Bytss ks
def T.Bytss : List T → Prop
  | [] => True
  | t :: ts => t.Byts ∧ T.Bytss ts
end
theorem T.Bytss.mem : ∀ {ts : List T}, T.Bytss ts → ∀ t ∈ ts, t.Byts
  | [], _, t, ht => by cases ht
  | t0 :: ts, h, t, ht => by
    rw [T.Bytss] at h
    rcases List.mem_cons.1 ht with rfl | ht
    · exact h.1
    · exact T.Bytss.mem h.2 t ht

/-- Four cells loaded as a tree's value. -/
theorem load4 {P : Program} (w : World) (ty : TypeId) (b off : Nat) (q : Q) (d : TypeDesc) (hu : P.underlying ty = some d) (hd : (match d with | .struct _ | .array _ _ => true | _ => false) = true) (hi : (P.info? ty).map (·.size) = some 4)
    (h0 : w.cell? ⟨b, off, none⟩ = some (.int .i64 q.k)) (h1 : w.cell? ⟨b, off + 1, none⟩ = some q.d) (h2 : w.cell? ⟨b, off + 2, none⟩ = some q.n) (h3 : w.cell? ⟨b, off + 3, none⟩ = some q.c) :
    (loadVar ty ⟨b, off, none⟩).run P w = .ok q.val w := by
  have hl : (loadCells ⟨b, off, none⟩ 4).run P w = .ok #[.int .i64 q.k, q.d, q.n, q.c] w :=
    run_loadCells_list (P := P) w ⟨b, off, none⟩ [.int .i64 q.k, q.d, q.n, q.c] (fun j v hv => by
      rw [Addr.add_lit]
      match j, hv with
      | 0, hv => simp at hv; subst hv; exact h0
      | 1, hv => simp at hv; subst hv; exact h1
      | 2, hv => simp at hv; subst hv; exact h2
      | 3, hv => simp at hv; subst hv; exact h3)
  cases hq : P.info? ty with
  | none => simp [hq] at hi
  | some i =>
    have hs : i.size = 4 := by simpa [hq] using hi
    have hagg : (isAgg ty).run P w = .ok true w := by
      unfold isAgg
      rw [Sem.run_bind, run_underlying hu w]
      cases d <;> simp_all
    simp [loadVar, Sem.run_bind, hagg, sizeOf, typeInfo, hq, hs, hl, Q.val]

theorem wpList_load4 {P : Program} {ops : Array Oper} {rest : List Oper} {o : Oper} {a : Act} {w : World} {K : Exit → Act → World → Prop} (hgd : o.guard = none) (ty : TypeId) (x : Operand) (ho : o.op = .load ty x)
    (b off : Nat) (hx : a.eval x = .pointer (some ⟨b, off, none⟩)) (q : Q) (d : TypeDesc) (hu : P.underlying ty = some d) (hd : (match d with | .struct _ | .array _ _ => true | _ => false) = true) (hi : (P.info? ty).map (·.size) = some 4)
    (hc : w.cell? ⟨b, off, none⟩ = some (.int .i64 q.k) ∧ w.cell? ⟨b, off + 1, none⟩ = some q.d ∧ w.cell? ⟨b, off + 2, none⟩ = some q.n ∧ w.cell? ⟨b, off + 3, none⟩ = some q.c)
    (h : wpList P ops K rest (a.put o.dst q.val) w) : wpList P ops K (o :: rest) a w :=
  wpList_plain hgd fun _ hK => by
    unfold Oper.wp execOp
    simp only [ho, hx, Instr.loadAt, Instr.sureAddr, Sem.run_bind, Sem.run_pure, Result.andThen_ok, load4 w ty b off q d hu hd hi hc.1 hc.2.1 hc.2.2.1 hc.2.2.2]
    exact hK _ _ h

def sumLen : List (List Int) → Nat
  | [] => 0
  | n :: r => n.length + sumLen r
theorem sumLen_next {ns : List (List Int)} {k : Nat} (h : k < ns.length) : sumLen (ns.take (k + 1)) = sumLen (ns.take k) + (ns.getD k []).length := by
  induction ns generalizing k with
  | nil => simp at h
  | cons n r ih =>
    cases k with
    | zero => simp [sumLen]
    | succ k =>
      have := ih (k := k) (by simpa using h)
      simp only [List.take_succ_cons, sumLen, List.getD_cons_succ] at *
      omega
theorem sumLen_take (ns : List (List Int)) (k : Nat) : sumLen (ns.take k) ≤ sumLen ns := by
  induction ns generalizing k with
  | nil => simp [sumLen]
  | cons n r ih =>
    cases k with
    | zero => simp [sumLen]
    | succ k =>
      have := ih k
      simp only [List.take_succ_cons, sumLen]
      omega
mutual
/-- How many bytes, names and kids there are. -/
def T.bulk : T → Nat
  | .node _ d ns ks => d.length + (ns.length + sumLen ns) + (ks.length + T.bulks ks)
def T.bulks : List T → Nat
  | [] => 0
  | t :: ts => t.bulk + T.bulks ts
end
theorem T.bulks_next {ks : List T} {k : Nat} (h : k < ks.length) : T.bulks (ks.take (k + 1)) = T.bulks (ks.take k) + (ks[k]).bulk := by
  induction ks generalizing k with
  | nil => simp at h
  | cons t r ih =>
    cases k with
    | zero => simp [T.bulks]
    | succ k =>
      have := ih (k := k) (by simpa using h)
      simp only [List.take_succ_cons, T.bulks, List.getElem_cons_succ] at *
      omega
theorem T.bulks_take (ks : List T) (k : Nat) : T.bulks (ks.take k) ≤ T.bulks ks := by
  induction ks generalizing k with
  | nil => simp [T.bulks]
  | cons t r ih =>
    cases k with
    | zero => simp [T.bulks]
    | succ k =>
      have := ih k
      simp only [List.take_succ_cons, T.bulks]
      omega

theorem RdN.get {w : World} {A : Option Addr} {n c m : Nat} {ns : List (List Int)} (h : RdN w (.slice A n c) ns) (hm : m < ns.length) : ∃ b off u, A = some ⟨b, off, none⟩ ∧ b < w.heap.size ∧ w.cell? ⟨b, off + m, none⟩ = some u ∧ Rd w u (bs (ns.getD m [])) := by
  obtain ⟨vs, ⟨A', c', e, _, _, h3⟩, hl, hvs⟩ := h
  injection e with e1 _ _
  obtain ⟨b, off, e2, hb, hc⟩ := h3 (by omega)
  have hv : m < vs.length := by omega
  exact ⟨b, off, vs[m], e1.trans e2, hb, hc m _ (List.getElem?_eq_getElem hv), hvs m _ (List.getElem?_eq_getElem hv)⟩

theorem Rd4.range {w : World} {b off k : Nat} {q : Q} (h0 : w.cell? ⟨b, off + 4 * k, none⟩ = some (.int .i64 q.k)) (h1 : w.cell? ⟨b, off + (4 * k + 1), none⟩ = some q.d) (h2 : w.cell? ⟨b, off + (4 * k + 2), none⟩ = some q.n) (h3 : w.cell? ⟨b, off + (4 * k + 3), none⟩ = some q.c) : w.rangeAt b (off + k * 4) [.int .i64 q.k, q.d, q.n, q.c] := fun j v hv => by
  rw [Nat.mul_comm k 4]
  match j, hv with
  | 0, hv => simp at hv; subst hv; exact h0
  | 1, hv => simp at hv; subst hv; exact h1
  | 2, hv => simp at hv; subst hv; exact h2
  | 3, hv => simp at hv; subst hv; exact h3


end Go.Proofs.Ytnloknhcdlannaa
