/-
  A slice of texts, each in a block of its own, in whatever order.
-/
import Derived.Test.YtchmppikpeeghaaNameL0
import Derived.Test.YtchmppikpeeghaaDatC
namespace Go.Proofs.Ytchmppikpeeghaa
open Go.RowKit
set_option linter.unusedVariables false

theorem own_keep {w w' : World} {lo n size : Nat} {e : TypeId} {v : Value} {xs : List Value} (h : w.ownsRow lo e size v n xs) (hk : ∀ g, v.ownBlock = some g → w'.heap[g]? = w.heap[g]?) : w'.ownsRow lo e size v n xs := by
  refine ⟨h.1, ?_⟩
  rcases h.2 with hn | ⟨g, cap, cur, rfl, hbg, hg, rest⟩
  · exact .inl hn
  · exact .inr ⟨g, cap, cur, rfl, hbg, by rw [hk g rfl]; exact hg, rest⟩
theorem own_base {w : World} {lo lo' n size : Nat} {e : TypeId} {v : Value} {xs : List Value} (h : w.ownsRow lo e size v n xs) (hl : lo' ≤ lo) : w.ownsRow lo' e size v n xs := by
  refine ⟨h.1, ?_⟩
  rcases h.2 with hn | ⟨g, cap, cur, rfl, hbg, rest⟩
  · exact .inl hn
  · exact .inr ⟨g, cap, cur, rfl, Nat.le_trans hl hbg, rest⟩
theorem own_ne {w : World} {lo lo' n n' size size' : Nat} {e e' : TypeId} {v u : Value} {xs ys : List Value} (h : w.ownsRow lo e size v n xs) (k : w.ownsRow lo' e' size' u n' ys) (he : e ≠ e') : u.ownBlock = none ∨ u.ownBlock ≠ v.ownBlock := by
  rcases k.2 with ⟨rfl, _⟩ | ⟨g, cap, cur, rfl, _, hg, _⟩
  · exact .inl rfl
  · refine .inr fun h2 => ?_
    rcases h.2 with ⟨rfl, _⟩ | ⟨g', cap', cur', rfl, _, hg', _⟩
    · cases h2
    · have : g = g' := Option.some.inj h2
      subst this
      rw [hg] at hg'
      injection hg' with hg'
      injection hg' with _ hg' _
      exact he hg'.symm

def SepB (us : List Value) : Prop := ∀ (i j : Nat) (u u' : Value) (g : Nat), i ≠ j → us[i]? = some u → us[j]? = some u' → u.ownBlock = some g → u'.ownBlock ≠ some g
/-- v holds us; each of us is a text of ns in a row of its own. -/
structure OwnU (lo : Nat) (w : World) (v : Value) (ns : List (List Int)) (us : List Value) : Prop where
  len : us.length = ns.length
  row : w.ownsRow lo 22 1 v us.length us
  each : ∀ i u, us[i]? = some u → w.ownsRow lo 5 1 u (ns.getD i []).length (bs (ns.getD i []))
  sep : SepB us
def OwnS (lo : Nat) (w : World) (v : Value) (ns : List (List Int)) : Prop := ∃ us, OwnU lo w v ns us
theorem own_rdV {w : World} {lo n : Nat} {e : TypeId} {v : Value} {xs : List Value} (h : w.ownsRow lo e 1 v n xs) (hn : n = xs.length) : Rd w v xs := (Own.of h hn).rd
theorem OwnU.rd {lo : Nat} {w : World} {v : Value} {ns : List (List Int)} {us : List Value} (h : OwnU lo w v ns us) : RdN w v ns :=
  ⟨us, own_rdV h.row rfl, h.len, fun i u hu => own_rdV (h.each i u hu) (by rw [bs_length])⟩
theorem OwnS.rd {lo : Nat} {w : World} {v : Value} {ns : List (List Int)} (h : OwnS lo w v ns) : RdN w v ns := h.elim fun _ h => h.rd
theorem OwnU.keep {lo : Nat} {w w' : World} {v : Value} {ns : List (List Int)} {us : List Value} (h : OwnU lo w v ns us) (hk : ∀ g, lo ≤ g → g < w.heap.size → w'.heap[g]? = w.heap[g]?) : OwnU lo w' v ns us :=
  ⟨h.len, own_keep h.row fun g hg => hk g (h.row.lt g hg).1 (h.row.lt g hg).2, fun i u hu => own_keep (h.each i u hu) fun g hg => hk g ((h.each i u hu).lt g hg).1 ((h.each i u hu).lt g hg).2, h.sep⟩
theorem OwnS.step {lo : Nat} {w w' : World} {v : Value} {ns : List (List Int)} (h : OwnS lo w v ns) (hb : Below w.heap.size w w') : OwnS lo w' v ns := h.elim fun us h => ⟨us, h.keep fun g _ hg => hb.block g hg⟩
theorem OwnS.outside {lo a b : Nat} {w w' : World} {v : Value} {ns : List (List Int)} (h : OwnS lo w v ns) (ho : Outside a b w w') (hd : b ≤ lo) : OwnS lo w' v ns := h.elim fun us h => ⟨us, h.keep fun g hl hg => ho.block g hg (.inr (by omega))⟩
theorem OwnS.nil (lo : Nat) (w : World) : OwnS lo w (.slice none 0 0) [] := ⟨[], rfl, World.ownsRow_nil _ _ _ _, fun i u hu => by simp at hu, fun i j u u' g _ hu => by simp at hu⟩
theorem OwnS.base {lo lo' : Nat} {w : World} {v : Value} {ns : List (List Int)} (h : OwnS lo w v ns) (hl : lo' ≤ lo) : OwnS lo' w v ns := h.elim fun us h => ⟨us, h.len, own_base h.row hl, fun i u hu => own_base (h.each i u hu) hl, h.sep⟩
theorem getD_app {ns : List (List Int)} {n : List Int} {i : Nat} (h : i < ns.length) : (ns ++ [n]).getD i [] = ns.getD i [] := by
  simp [List.getD, List.getElem?_append_left h]
theorem getD_last (ns : List (List Int)) (n : List Int) : (ns ++ [n]).getD ns.length [] = n := by simp [List.getD]
/-- One text more: it was made in W1, and appended to the row behind one more block. -/
theorem OwnU.snoc {lo : Nat} {W W1 W3 : World} {v v' u : Value} {ns : List (List Int)} {n : List Int} {us : List Value} (h : OwnU lo W v ns us) (hb : Below W.heap.size W W1) (hu : W1.ownsRow W.heap.size 5 1 u n.length (bs n)) (hlo : lo ≤ W.heap.size) (o : Obj)
    (own' : W3.ownsRow lo 22 1 v' (us.length + 1) (us ++ [u])) (hg : (W1.alloc o).grownBy W3 v.ownBlock) : OwnU lo W3 v' (ns ++ [n]) (us ++ [u]) := by
  have row1 := own_step h.row hb
  refine ⟨by simp [h.len], own_len own' (by simp), fun i x hx => ?_, fun i j x x' g hij hx hx' hxg => ?_⟩
  · rcases Nat.lt_or_ge i us.length with hi | hi
    · rw [List.getElem?_append_left hi] at hx
      rw [getD_app (by rw [← h.len]; exact hi)]
      exact ((own_step (h.each i x hx) hb).alloc o).kept hg (own_ne row1 (own_step (h.each i x hx) hb) (by decide))
    · have hi2 : i = us.length := by
        have := (List.getElem?_eq_some_iff.1 hx).1
        simp at this
        omega
      subst hi2
      rw [List.getElem?_append_right (Nat.le_refl _), Nat.sub_self] at hx
      obtain rfl : u = x := by simpa using hx
      rw [h.len, getD_last]
      exact (own_base (hu.alloc o) hlo).kept hg (own_ne row1 hu (by decide))
  · have old : ∀ i x g, i < us.length → us[i]? = some x → x.ownBlock = some g → g < W.heap.size := fun i x g _ hx hg => ((h.each i x hx).lt g hg).2
    have new : ∀ g, u.ownBlock = some g → W.heap.size ≤ g := fun g hg => (hu.lt g hg).1
    have at_ : ∀ i x, (us ++ [u])[i]? = some x → (i < us.length ∧ us[i]? = some x) ∨ (i = us.length ∧ x = u) := fun i x hx => by
      rcases Nat.lt_or_ge i us.length with hi | hi
      · rw [List.getElem?_append_left hi] at hx; exact .inl ⟨hi, hx⟩
      · have hi2 : i = us.length := by
          have := (List.getElem?_eq_some_iff.1 hx).1
          simp at this
          omega
        subst hi2
        rw [List.getElem?_append_right (Nat.le_refl _), Nat.sub_self] at hx
        exact .inr ⟨rfl, by simpa using hx.symm⟩
    intro hx2
    rcases at_ i x hx with ⟨h1, h2⟩ | ⟨h1, rfl⟩ <;> rcases at_ j x' hx' with ⟨h3, h4⟩ | ⟨h3, rfl⟩
    · exact h.sep i j x x' g hij h2 h4 hxg hx2
    · have := old i x g h1 h2 hxg; have := new g hx2; omega
    · have := old j x' g h3 h4 hx2; have := new g hxg; omega
    · omega

theorem rd_oneV (w : World) (u : Value) (t : TypeId) : Rd (w.alloc (.cells #[u] t)) (.slice (some ⟨w.heap.size, 0, none⟩) 1 1) [u] := by
  refine ⟨_, 1, rfl, Nat.le_refl _, by simp [maxLen], fun _ => ⟨w.heap.size, 0, rfl, by simp, fun i x hx => ?_⟩⟩
  have hi := (List.getElem?_eq_some_iff.1 hx).1
  have hi0 : i = 0 := by simpa using hi
  subst hi0
  rw [World.cell?_alloc_at _ _ _ _ rfl]
  simpa using hx
theorem slice_one {A : Option Addr} {n c : Nat} : ∀ u ∈ [Value.slice A n c], u.oneCell' = true := by
  intro u hu
  rw [List.mem_singleton.1 hu]
  rfl

/-- The marks, text by text. -/
def mksN (s : Int) : List (List Int) → List (List Int)
  | [] => []
  | n :: r => mks s n.length :: mksN (s + n.length) r
theorem mksN_len (s : Int) (ns : List (List Int)) : (mksN s ns).length = ns.length := by
  induction ns generalizing s with
  | nil => rfl
  | cons n r ih => simp [mksN, ih]
theorem mksN_at {ns : List (List Int)} {j : Nat} (h : j < ns.length) (s : Int) : (mksN s ns).getD j [] = mks (s + sumLen (ns.take j)) (ns.getD j []).length := by
  induction ns generalizing j s with
  | nil => simp at h
  | cons n r ih =>
    cases j with
    | zero => simp [mksN, sumLen]
    | succ j =>
      have := ih (j := j) (by simpa using h) (s + n.length)
      rw [mksN, List.getD_cons_succ, this, List.take_succ_cons, sumLen, List.getD_cons_succ]
      congr 1
      omega

end Go.Proofs.Ytchmppikpeeghaa
