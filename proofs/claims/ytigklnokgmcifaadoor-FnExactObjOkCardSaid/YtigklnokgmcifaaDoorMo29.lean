/-
  Parts of the proof: BytP, DataT, IterN, Name.
-/
import Derived.Test.YtigklnokgmcifaaDoorMo8
import Derived.Test.YtigklnokgmcifaaDoorMo28
import Derived.Test.YtigklnokgmcifaaDoorMo27

/-
  The encoding of a tree, in plain numbers.
-/
namespace Go.Proofs.YtigklnokgmcifaaDoor
open Go.RowKit
set_option linter.unusedVariables false

/-- A text with its length ahead. -/
def txt (t : List Int) : List Int := vint t.length ++ t
theorem putText_txt {l t : List Int} (h : t.length ≤ 400) : putText l t = l ++ txt t := by
  rw [putText, if_neg (by omega), putNum, if_neg (by omega), Int.toNat_natCast, List.append_assoc]
  rfl
theorem txt_len {t : List Int} (h : t.length ≤ 2147483647) : (txt t).length ≤ t.length + 5 := by
  have := vint_len t.length h
  rw [txt, List.length_append]
  omega
theorem txt_byt {t : List Int} (h : Byt t) : Byt (txt t) := (vint_byt _).app h

mutual
def T.enc : T → List Int
  | .node k d ns ks => k :: (if k = 2 then (ks.length : Int) :: T.encs ks ns else txt d)
def T.encs : List T → List (List Int) → List Int
  | [], _ => []
  | t :: ts, ns => txt (ns.headD []) ++ t.enc ++ T.encs ts ns.tail
end
theorem T.encs_next {ks : List T} {j : Nat} (h : j < ks.length) (ns : List (List Int)) : T.encs (ks.take (j + 1)) ns = T.encs (ks.take j) ns ++ txt (ns.getD j []) ++ (ks[j]).enc := by
  induction ks generalizing j ns with
  | nil => simp at h
  | cons t r ih =>
    cases j with
    | zero => cases ns <;> simp [T.encs]
    | succ j =>
      have h2 := ih (j := j) (by simpa using h) ns.tail
      have h3 : ns.tail.getD j [] = ns.getD (j + 1) [] := by cases ns <;> simp [List.getD]
      rw [List.take_succ_cons, T.encs, h2, h3, List.take_succ_cons, T.encs]
      simp only [List.append_assoc, List.getElem_cons_succ]
theorem T.encs_take (ks : List T) (j : Nat) (ns : List (List Int)) : (T.encs (ks.take j) ns).length ≤ (T.encs ks ns).length := by
  induction ks generalizing j ns with
  | nil => simp [T.encs]
  | cons t r ih =>
    cases j with
    | zero => simp [T.encs]
    | succ j =>
      have := ih j ns.tail
      simp only [List.take_succ_cons, T.encs, List.length_append]
      omega
theorem sumLen_head (ns : List (List Int)) : (ns.headD []).length + sumLen ns.tail = sumLen ns := by
  cases ns <;> simp [sumLen]
theorem T.encs_room (ks : List T) (h : ∀ t ∈ ks, t.bulk ≤ 1048576 → t.enc.length + 5 ≤ t.bulk + 11 * t.size) (ns : List (List Int)) (hn : sumLen ns ≤ 1048576) (hk : T.bulks ks ≤ 1048576) : (T.encs ks ns).length ≤ sumLen ns + T.bulks ks + 11 * T.sizes ks := by
  induction ks generalizing ns with
  | nil => simp [T.encs]
  | cons t r ih =>
    have hh := sumLen_head ns
    rw [T.bulks] at hk
    have h1 := h t (List.mem_cons_self ..) (by omega)
    have h2 := ih (fun t ht => h t (List.mem_cons_of_mem _ ht)) ns.tail (by omega) (by omega)
    have h3 := txt_len (t := ns.headD []) (by omega)
    rw [T.encs, T.bulks, T.sizes, List.length_append, List.length_append]
    omega
theorem T.enc_room : ∀ t : T, t.bulk ≤ 1048576 → t.enc.length + 5 ≤ t.bulk + 11 * t.size := by
  intro t
  induction t using T.ind with
  | h k d ns ks ih =>
    intro hb
    rw [T.bulk] at hb
    have h1 := T.encs_room ks ih ns (by omega) (by omega)
    have h2 := txt_len (t := d) (by omega)
    rw [T.enc, T.bulk, T.size, List.length_cons]
    split
    · rw [List.length_cons]; omega
    · omega

/-- What TreeBytes answers. -/
def encOf (t : T) : List Int := if treeOk t then t.enc else []
theorem encOf_room (t : T) (h : t.bulk ≤ 1048576) : (encOf t).length ≤ 1049100 := by
  unfold encOf
  split
  · rename_i hv
    rw [treeOk, Bool.and_eq_true, decide_eq_true_eq] at hv
    have := t.enc_room h
    omega
  · simp
theorem entry_len {l : List Int} (h : entryOk l = true) : l.length ≤ 8 := by
  rw [entryOk, Bool.and_eq_true, decide_eq_true_eq] at h
  exact h.1.2.1
theorem nodeOk_dir {d : List Int} {ns : List (List Int)} {ks : List T} (h : (T.node 2 d ns ks).nodeOk = true) : d.length = 0 ∧ ks.length ≤ 6 ∧ ns.length = ks.length ∧ ∀ m, m < ns.length → (ns.getD m []).length ≤ 8 := by
  rw [T.nodeOk, if_pos rfl, Bool.and_eq_true, decide_eq_true_eq] at h
  refine ⟨h.1.1, h.1.2.1, h.1.2.2, fun m hm => ?_⟩
  have := asc_at.1 h.2 m hm
  rw [nameAt, Bool.and_eq_true] at this
  exact entry_len this.1
theorem nodeOk_file {k : Int} {d : List Int} {ns : List (List Int)} {ks : List T} (h2 : k ≠ 2) (h : (T.node k d ns ks).nodeOk = true) : 0 ≤ k ∧ k ≤ 3 ∧ d.length ≤ 400 ∧ ns.length = 0 ∧ ks.length = 0 := by
  rw [T.nodeOk, if_neg h2, decide_eq_true_eq] at h
  exact h
theorem okAt_parts {k : Int} {d : List Int} {ns : List (List Int)} {ks : List T} {deep : Nat} (h : T.okAt (.node k d ns ks) deep = true) : (T.node k d ns ks).nodeOk = true ∧ ∀ t ∈ ks, t.okAt (deep + 1) = true := by
  rw [T.okAt, Bool.and_eq_true, Bool.and_eq_true] at h
  exact ⟨h.2.1, T.okAts_mem h.2.2⟩

end Go.Proofs.YtigklnokgmcifaaDoor


/-
  The model's TreeData, whole.
-/
namespace Go.Proofs.YtigklnokgmcifaaDoor
open Go.RowKit
set_option linter.unusedVariables false

theorem T.dats_bulk (ks : List T) (h : ∀ t ∈ ks, t.dat.length ≤ t.bulk) : (T.dats ks).length ≤ T.bulks ks := by
  induction ks with
  | nil => simp [T.dats]
  | cons t r ih =>
    rw [T.dats, T.bulks, List.length_append]
    have h1 := h t (List.mem_cons_self ..)
    have h2 := ih fun t ht => h t (List.mem_cons_of_mem _ ht)
    omega
theorem T.dat_bulk : ∀ t : T, t.dat.length ≤ t.bulk := by
  intro t
  induction t using T.ind with
  | h k d ns ks ih =>
    have := T.dats_bulk ks ih
    rw [T.dat, T.bulk, List.length_append]
    omega
/-- What TreeData answers. -/
def datOf (t : T) : List Int := if treeOk t then t.dat else []

end Go.Proofs.YtigklnokgmcifaaDoor


/-
  The program's nodes: the function value; what it does with its rounds. TreeOk's own loop.
-/
namespace Go.Proofs.YtigklnokgmcifaaDoor
open Go.RowKit Go.Shelf
set_option linter.unusedVariables false
attribute [local go_sem] Oper.semAt_some

set_option maxRecDepth 20000 in
set_option maxHeartbeats 800000 in
theorem nodes (t : T) (q : Q) (w : World) (hq : TIn w t q) :
    Calls Tryd.prog 66 #[q.val] w fun e w' => e = .returned (.func (.func 96) #[] #[.pointer (some ⟨w.heap.size, 0, none⟩)]) ∧ w' = w.alloc (.cells #[.int .i64 q.k, q.d, q.n, q.c] 33) := by
  obtain ⟨A, n, c, A', n', c', A'', n'', c'', e, e', e''⟩ := hq.form
  obtain ⟨k, d, ns, ks⟩ := q
  dsimp only at e e' e''
  subst e e' e''
  dsimp only [Q.val]
  clear hq
  go_enter Tryd.func66, Tryd.ntmps66
  go_wp2
  go_ret
  exact ⟨rfl, rfl⟩

set_option maxRecDepth 20000 in
set_option maxHeartbeats 800000 in
theorem nodes1 (w0 : World) (x : Nd w0) (hs : x.s = 0) (hn : x.nm = []) (hv : x.v = .slice none 0 0) (l : Nat) (J Jx : List (Nd w0) → World → Prop)
    (hJ : ∀ pre W W', J pre W → Below W.heap.size W W' → J pre W') (hG : ∀ pre W, J pre W → ∀ y ∈ pre, y.good)
    (hY : ∀ pre (y : Nd w0) W, J pre W → pre.map Nd.key ++ [y.key] <+: x.t.pre 0 [] → Below w0.heap.size w0 W → YieldAt Fence.wide 0 Tryd.prog l #[y.val] W fun e W' =>
      (e = .returned (.bool true) ∧ J (pre ++ [y]) W' ∧ Holds w0.heap.size W W') ∨ (e = .returned (.bool false) ∧ Jx (pre ++ [y]) W'))
    (W : World) (g : Nat) (hg : C4 W g 33 (.int .i64 x.q.k) x.q.d x.q.n x.q.c) (hw : Below w0.heap.size w0 W) (h0 : J [] W) :
    Calls Tryd.prog 96 #[.func (.yield l) #[] #[], .pointer (some ⟨g, 0, none⟩)] W fun e W' => (∃ v, e = .returned v) ∧
      ((∃ xs : List (Nd w0), xs.map Nd.key = x.t.pre 0 [] ∧ J xs W') ∨ (∃ xs : List (Nd w0), xs.map Nd.key <+: x.t.pre 0 [] ∧ Jx xs W')) := by
  have hcall := produce x.t w0 x l J Jx (x.t.pre 0 []) hJ hG hY rfl [] W h0 hw (by rw [hs, hn]; exact List.prefix_refl _)
  rw [hs, hn, Nd.val, hs, hv] at hcall
  obtain ⟨A, n, c, A', n', c', A'', n'', c'', e, e', e''⟩ := x.hq.form
  rw [e, e', e''] at hcall hg
  generalize x.q.k = k at *
  have HC := hide hcall
  have x0 := hg.c0
  have x1 := hg.c1
  have x2 := hg.c2
  have x3 := hg.c3
  clear hcall hJ hG hY hg hw h0 hs hn hv e e' e''
  go_enter Tryd.func96, Tryd.ntmps96
  go_wp2_with fail
  refine HC.out.mono ?_
  rintro e W2 (⟨rfl, ⟨xs, h1, h2⟩, _⟩ | ⟨rfl, xs, h1, h2⟩)
  · have H1 := hide h1
    have H2 := hide h2
    clear h1 h2
    go_wp2
    go_end0
    exact ⟨⟨_, rfl⟩, .inl ⟨xs, H1.out, H2.out⟩⟩
  · have H1 := hide h1
    have H2 := hide h2
    clear h1 h2
    go_wp2
    go_end0
    exact ⟨⟨_, rfl⟩, .inr ⟨xs, H1.out, H2.out⟩⟩

end Go.Proofs.YtigklnokgmcifaaDoor


/-
  NameOf: the model and the program give the same characters.
-/
namespace Go.Proofs.YtigklnokgmcifaaDoor
open Go.RowKit
set_option linter.unusedVariables false

/-- What NameOf answers. -/
def nameOf (k : Int) (l : List Int) : List Int := if 90000 < l.length then [] else b32 ((shaL (k :: l)).take 10)
theorem sha10_len (l : List Int) : ((shaL l).take 10).length = 10 := by rw [List.length_take, shaL_len]; rfl
theorem sha10_byt (l : List Int) : Byt ((shaL l).take 10) := (shaL_byt l).take 10
theorem nameOf_room (k : Int) (l : List Int) (_ : l.length ≤ 1048576) : (nameOf k l).length ≤ 1099511627776 := by
  unfold nameOf
  split
  · simp
  · rw [b32_len, sha10_len]; omega
theorem base32_ten (l : List Int) : base32 ((shaL l).take 10) = b32 ((shaL l).take 10) := by
  rw [base32, if_neg (by rw [sha10_len]; omega)]

/-- The first ten elements of a row of 32. -/
theorem Rd.ten {w : World} {A : Option Addr} {c : Nat} {l : List Int} (h : Rd w (.slice A 32 c) (bs (shaL l))) : ∃ b off, A = some ⟨b, off, none⟩ ∧ 32 ≤ c ∧ c ≤ maxLen ∧ Rd w (.slice A 10 c) (bs ((shaL l).take 10)) := by
  obtain ⟨A2, c2, e, h1, h2, h3⟩ := h
  rw [bs_length, shaL_len] at *
  injection e with e1 _ e2
  subst e1 e2
  obtain ⟨b, off, rfl, hb, hc⟩ := h3 (by omega)
  refine ⟨b, off, rfl, h1, h2, ?_⟩
  have := Rd.part hc hb (k := 0) (n := 10) (by rw [shaL_len]; omega) (by rw [shaL_len]; exact h1) h2 rfl
  simpa using this

set_option maxRecDepth 20000 in
set_option maxHeartbeats 800000 in
theorem specName (k : Int) (hk : 0 ≤ k ∧ k ≤ 255) (l : List Int) (hB : Byt l) (v : Value) (w : World) (hv : Rd w v (bs l)) (hl : l.length ≤ 90000) :
    Calls Tryd.prog 46 #[.int .u8 k, v] w fun e w' => ∃ v', e = .returned v' ∧ Own 5 w.heap.size w'.heap.size w' v' (bs (b32 ((shaL (k :: l)).take 10))) ∧ Below w.heap.size w w' := by
  obtain ⟨i0, hi0, hz0, hz1, hz2⟩ := info_parts u8info
  have hB2 : Byt (k :: l) := (Byt.one hk.1 hk.2).app hB
  obtain ⟨A, c, hV, hc1, hc2, _⟩ := id hv
  rw [bs_length] at *
  unfold maxLen at hc2
  subst hV
  have HV := hide hv
  clear hv
  have own1 : (w.alloc (.cells #[.int .u8 k] 5)).ownsRow w.heap.size 5 1 (.slice (some ⟨w.heap.size, 0, none⟩) 1 1) 1 (bs [k]) := World.ownsRow_lit w #[.int .u8 k] 1 (by omega) (by simp [maxLen]) rfl
  go_enter Tryd.func46, Tryd.ntmps46
  go_wp2_with (first
    | (at_builtin; refine wpList_app _ rfl _ _ _ rfl w.heap.size 5 i0 _ 1 Tryd.underlying22 hi0 hz0 hz1 hz2 rfl _ _ _ rfl own1 _ (bs l) rfl (HV.out.alloc _) (bs_one l) (by rw [bs_length]; simp only [maxLen]; omega) (by rw [bs_length]; omega) (by simp) ?_; intro v1 w1 own2 gr1; have b1 : Below w.heap.size w w1 := Below.row ((Below.refl _ _).alloc (Nat.le_refl _) _) (by simp) own1 gr1; have r1 : Rd w1 v1 (bs (k :: l)) := (Own.of (own_cells own2 (bs_append [k] l).symm) (by simp [bs]; omega)).rd)
    | (go_at_call 79; (with_reducible refine (specSum (k :: l) hB2 v1 w1 r1 (by simp; omega)).mono ?_); rintro e w2 ⟨v2, rfl, o2, b2⟩; obtain ⟨A2, c2, rfl, hc3, hc4⟩ := own_slice o2.1; rw [bs_length, shaL_len] at *; obtain ⟨bb, off, rfl, hc5, hc6, r2⟩ := o2.rd.ten; unfold maxLen at hc6)
    | (go_at_call 78; (with_reducible refine (specBase ((shaL (k :: l)).take 10) (sha10_byt _) _ w2 r2 (by rw [sha10_len]; omega)).mono ?_); rintro e w3 ⟨v3, rfl, o3, b3⟩))
  go_ret
  have c2' : Below w.heap.size w w2 := b1.trans (b2.mono b1.size)
  exact ⟨_, rfl, o3.wide c2'.size (Nat.le_refl _) (Nat.le_refl _), c2'.trans (b3.mono c2'.size)⟩

set_option maxRecDepth 20000 in
set_option maxHeartbeats 800000 in
theorem implNameOf (k : Int) (hk : 0 ≤ k ∧ k ≤ 255) (l : List Int) (hB : Byt l) (v : Value) (w : World) (hv : Rd w v (bs l)) (hT : Tab w) :
    Calls Tryd.prog 51 #[.int .u8 k, v] w fun e w' => ∃ v', e = .returned v' ∧ Own 5 w.heap.size w'.heap.size w' v' (bs (nameOf k l)) ∧ Below w.heap.size w w' := by
  obtain ⟨i0, hi0, hz0, hz1, hz2⟩ := info_parts u8info
  have hB2 : Byt (k :: l) := (Byt.one hk.1 hk.2).app hB
  obtain ⟨A, c, hV, hc1, hc2, _⟩ := id hv
  rw [bs_length] at *
  unfold maxLen at hc2
  subst hV
  have HT := hide hT
  clear hT
  by_cases h : 90000 < l.length
  · rw [nameOf, if_pos h]
    clear hv
    go_enter Tryd.func51, Tryd.ntmps51
    go_wp2
    go_ret
    exact ⟨_, rfl, Own.of (World.ownsRow_nil _ _ _ _) rfl, Below.refl _ _⟩
  · rw [nameOf, if_neg h]
    have HV := hide hv
    clear hv
    have own1 : (w.alloc (.cells #[.int .u8 k] 5)).ownsRow w.heap.size 5 1 (.slice (some ⟨w.heap.size, 0, none⟩) 1 1) 1 (bs [k]) := World.ownsRow_lit w #[.int .u8 k] 1 (by omega) (by simp [maxLen]) rfl
    have hsh : sha256 (k :: l) = shaL (k :: l) := by rw [sha256, if_neg (by simp; omega)]
    have hbs : base32 ((shaL (k :: l)).take 10) = b32 ((shaL (k :: l)).take 10) := base32_ten _
    rw [← hbs]
    clear hbs
    go_enter Tryd.func51, Tryd.ntmps51
    go_wp2_with (first
      | (at_builtin; refine wpList_app _ rfl _ _ _ rfl w.heap.size 5 i0 _ 1 Tryd.underlying22 hi0 hz0 hz1 hz2 rfl _ _ _ rfl own1 _ (bs l) rfl (HV.out.alloc _) (bs_one l) (by rw [bs_length]; simp only [maxLen]; omega) (by rw [bs_length]; omega) (by simp) ?_; intro v1 w1 own2 gr1; have b1 : Below w.heap.size w w1 := Below.row ((Below.refl _ _).alloc (Nat.le_refl _) _) (by simp) own1 gr1; have r1 : Rd w1 v1 (bs (k :: l)) := (Own.of (own_cells own2 (bs_append [k] l).symm) (by simp [bs]; omega)).rd; have hsha := implSha (k :: l) hB2 v1 w1 r1 (HT.out.step b1); rw [hsh] at hsha)
      | (go_at_call 85; (with_reducible refine hsha.mono ?_); rintro e w2 ⟨v2, rfl, o2, b2⟩; obtain ⟨A2, c2, rfl, hc3, hc4⟩ := own_slice o2.1; rw [bs_length, shaL_len] at *; obtain ⟨bb, off, rfl, hc5, hc6, r2⟩ := o2.rd.ten; unfold maxLen at hc6)
      | (go_at_call 86; (with_reducible refine (implBase32 ((shaL (k :: l)).take 10) (sha10_byt _) _ w2 r2).mono ?_); rintro e w3 ⟨v3, rfl, o3, b3⟩))
    go_ret
    have c2' : Below w.heap.size w w2 := b1.trans (b2.mono b1.size)
    exact ⟨_, rfl, o3.wide c2'.size (Nat.le_refl _) (Nat.le_refl _), c2'.trans (b3.mono c2'.size)⟩

end Go.Proofs.YtigklnokgmcifaaDoor
