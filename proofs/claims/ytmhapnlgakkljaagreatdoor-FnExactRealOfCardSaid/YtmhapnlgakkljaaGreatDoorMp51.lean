/-
  Parts of the proof: RealOfP.
-/
import Derived.Test.YtmhapnlgakkljaaGreatDoorMp26
import Derived.Test.YtmhapnlgakkljaaGreatDoorMp9
import Derived.Test.YtmhapnlgakkljaaGreatDoorMp19
import Derived.Test.YtmhapnlgakkljaaGreatDoorMp1
import Derived.Laws.BytesArg
import Derived.IntWalk
import Derived.Deep.QuietTactic
import Derived.BigQuiet
import Derived.Deep.Cut
import Derived.Deep.DeepCutAuto
import Derived.Deep.CutBlock
import Derived.Deep.RegionWith

/-
  The realisation of an output, in plain lists.
-/
namespace Go.Proofs.YtmhapnlgakkljaaGreatDoor
open Go.RowKit
set_option linter.unusedVariables false
set_option linter.unusedSimpArgs false

/-- The realisation of an output. -/
def keyIs (r : DReal) (d o : List Int) : Bool := decide (r.drv = d) && decide (r.out = o)
def realOfL (l : List DReal) (d o : List Int) : Option DReal := l.find? (fun r => keyIs r d o)
def realOf (s : DStore) (d o : List Int) : Option DReal := if storeOk s then realOfL s.reals d o else none
def pathP (r : Option DReal) : List Int := (r.map DReal.path).getD []
theorem keyIs_iff {r : DReal} {d o : List Int} : keyIs r d o = true ↔ r.drv = d ∧ r.out = o := by
  rw [keyIs, Bool.and_eq_true, decide_eq_true_eq, decide_eq_true_eq]
theorem realOf_first {l : List DReal} {d o : List Int} {i : Nat} (hi : i < l.length) (h : keyIs l[i] d o = true) (hn : ∀ m (hm : m < i), keyIs (l[m]'(by omega)) d o = false) : realOfL l d o = some l[i] := by
  unfold realOfL
  rw [List.find?_eq_some_iff_getElem]
  exact ⟨h, i, hi, rfl, fun j hj => by rw [hn j hj]; rfl⟩
theorem realOf_none {l : List DReal} {d o : List Int} (hn : ∀ m (hm : m < l.length), keyIs l[m] d o = false) : realOfL l d o = none := by
  unfold realOfL
  rw [List.find?_eq_none]
  intro x hx
  obtain ⟨i, hi, rfl⟩ := List.mem_iff_getElem.1 hx
  rw [hn i hi]
  exact Bool.false_ne_true
theorem pathP_len {s : DStore} {d o : List Int} {B : Nat} (hbk : bulks s.cells ≤ B) : (pathP (realOf s d o)).length ≤ B := by
  unfold pathP realOf
  split
  · cases h : realOfL s.reals d o with
    | none => simp
    | some r =>
      have hr : r ∈ s.reals := List.mem_of_find?_eq_some h
      have h1 := bulks_mem (f := DReal.cells) hr
      have h2 := bulk_Real r
      have h3 := bulk_Store s
      simp only [Option.map_some, Option.getD_some]
      omega
  · simp
theorem cnts_numsR (l : List Int) : cnts (l.map (Cel.num .u8)) = l.length := by
  induction l with
  | nil => rfl
  | cons x l ih => rw [List.map_cons, cnts, ih, List.length_cons]; show 1 + _ = _; omega
theorem own_freshR {w : World} {lo : Nat} {v : Value} {l : List Int} (h : w.ownsRow lo 5 1 v l.length (bs l)) : ∃ F, Lie w (raw l) v F ∧ Fresh lo w F := by
  have hr : Rd w v (bs l) := (Own.of h (bs_length l).symm).rd
  refine ⟨blk v, hr.lie, ?_⟩
  rcases h.2 with ⟨rfl, hn⟩ | ⟨g, cap, cur, rfl, hbg, hg, _⟩
  · exact Fresh.nil _ _
  · rcases Nat.eq_zero_or_pos l.length with h0 | h0
    · rw [h0, blk_none]; exact Fresh.nil _ _
    · rw [blk_some h0]
      exact ⟨by simp, fun x hx => by rw [List.mem_singleton.1 hx]; exact hbg, fun x hx => by rw [List.mem_singleton.1 hx]; exact ⟨cur, _, hg⟩⟩
theorem lie_nilR (w : World) : Lie w (raw []) (.slice none 0 0) [] := (show Rd w (.slice none 0 0) (bs []) from ⟨none, 0, rfl, Nat.le_refl _, Nat.zero_le _, fun h => by simp [bs] at h⟩).lie

/-! ### the order of the realisations -/
theorem inLess_trans {a b c : DIn} (h1 : inLess a b = true) (h2 : inLess b c = true) : inLess a c = true := by
  rw [inLess_eq] at h1 h2 ⊢
  by_cases e1 : a.drv = b.drv
  · rw [if_pos e1] at h1
    by_cases e2 : b.drv = c.drv
    · rw [if_pos e2] at h2
      rw [if_pos (e1.trans e2)]
      exact lessL_trans h1 h2
    · rw [if_neg e2] at h2
      rw [if_neg (e1 ▸ e2), e1]
      exact h2
  · rw [if_neg e1] at h1
    by_cases e2 : b.drv = c.drv
    · rw [if_pos e2] at h2
      rw [if_neg (fun e => e1 (e.trans e2.symm)), ← e2]
      exact h1
    · rw [if_neg e2] at h2
      have h3 := lessL_trans h1 h2
      by_cases e3 : a.drv = c.drv
      · rw [e3, lessL_irrefl] at h3
        cases h3
      · rw [if_neg e3]
        exact h3
theorem reals_asc {s : DStore} (h : realsOk s = true) : ∀ (k i : Nat) (hk : i + (k + 1) < s.reals.length), inLess (asIn (s.reals[i]'(by omega))) (asIn s.reals[i + (k + 1)]) = true := by
  have hstep : ∀ i (hi : i + 1 < s.reals.length), inLess (asIn (s.reals[i]'(by omega))) (asIn s.reals[i + 1]) = true := fun i hi => by
    have h1 := rangeAll.1 h (i + 1) hi
    rw [realAt_eq hi, Bool.and_eq_true] at h1
    have h2 := h1.2
    rw [decide_eq_false (by omega), Bool.false_or, Nat.add_sub_cancel, List.getElem?_eq_getElem (show i < s.reals.length by omega)] at h2
    exact h2
  intro k
  induction k with
  | zero => intro i hk; exact hstep i hk
  | succ k ih => intro i hk; exact inLess_trans (ih i (by omega)) (hstep (i + (k + 1)) (by omega))
theorem reals_less {s : DStore} (h : realsOk s = true) {i j : Nat} (hij : i < j) (hj : j < s.reals.length) : inLess (asIn (s.reals[i]'(by omega))) (asIn s.reals[j]) = true := by
  have := reals_asc h (j - i - 1) i (by omega)
  have e : i + (j - i - 1 + 1) = j := by omega
  simpa only [e] using this
def keyD (d o : List Int) : DReal := ⟨d, o, []⟩
def cmpAt (s : DStore) (d o : List Int) (i : Nat) : Int := match s.reals[i]? with | some r => inCmpI (asIn r) (asIn (keyD d o)) | none => 0
theorem cmpAt_eq {s : DStore} {d o : List Int} {i : Nat} (h : i < s.reals.length) : cmpAt s d o i = inCmpI (asIn s.reals[i]) (asIn (keyD d o)) := by
  rw [cmpAt, List.getElem?_eq_getElem h]
theorem asIn_ok {r : DReal} (h : oks r.cells) : oks (asIn r).cells := (DIn.oks_iff _).2 ⟨((DReal.oks_iff r).1 h).1, ((DReal.oks_iff r).1 h).2.1⟩
theorem keyD_ok {d o : List Int} (hd : Byt d) (ho : Byt o) : oks (keyD d o).cells := (DReal.oks_iff _).2 ⟨hd, ho, fun _ h => by cases h⟩
theorem cmpAt_zero {s : DStore} (hok : oks s.cells) {d o : List Int} (hd : Byt d) (ho : Byt o) {i : Nat} (h : i < s.reals.length) : cmpAt s d o i = 0 ↔ keyIs s.reals[i] d o = true := by
  have hr := ((DStore.oks_iff s).1 hok).2.2 _ (List.getElem_mem h)
  obtain ⟨r0, r1, -⟩ := (DReal.oks_iff _).1 hr
  rw [cmpAt_eq h, keyIs_iff, inCmpI]
  show (if cmpI (s.reals[i]).drv d = 0 then cmpI (s.reals[i]).out o else cmpI (s.reals[i]).drv d) = 0 ↔ _
  by_cases e : (s.reals[i]).drv = d
  · rw [if_pos ((cmpI_zero r0 hd).2 e), cmpI_zero r1 ho]
    exact ⟨fun h => ⟨e, h⟩, fun h => h.2⟩
  · have e2 : ¬ cmpI (s.reals[i]).drv d = 0 := fun h => e ((cmpI_zero r0 hd).1 h)
    rw [if_neg e2]
    exact ⟨fun h => absurd h e2, fun h => absurd h.1 e⟩
theorem cmpAt_less {s : DStore} (hok : oks s.cells) {d o : List Int} (hd : Byt d) (ho : Byt o) {i : Nat} (h : i < s.reals.length) : 0 ≤ cmpAt s d o i ↔ inLess (asIn s.reals[i]) (asIn (keyD d o)) = false := by
  have hr := ((DStore.oks_iff s).1 hok).2.2 _ (List.getElem_mem h)
  have := inCmpI_less (asIn_ok hr) (asIn_ok (keyD_ok hd ho))
  rw [cmpAt_eq h]
  cases hb : inLess (asIn s.reals[i]) (asIn (keyD d o)) with
  | false => rw [hb] at this; exact ⟨fun _ => rfl, fun _ => of_decide_eq_true this⟩
  | true => rw [hb] at this; exact ⟨fun h0 => absurd h0 (of_decide_eq_false this), fun h0 => by cases h0⟩
theorem cmpAt_mono {s : DStore} (hok : oks s.cells) (hr : realsOk s = true) {d o : List Int} (hd : Byt d) (ho : Byt o) {i j : Nat} (hij : i ≤ j) (hj : j < s.reals.length) (h : 0 ≤ cmpAt s d o i) : 0 ≤ cmpAt s d o j := by
  rcases Nat.lt_or_ge i j with hl | hl
  · rw [cmpAt_less hok hd ho (by omega)] at h
    rw [cmpAt_less hok hd ho hj, Bool.eq_false_iff]
    intro h2
    have := inLess_trans (reals_less hr hl hj) h2
    rw [h] at this
    cases this
  · obtain rfl : i = j := by omega
    exact h
/-- What a binary search finds. -/
theorem found_real {s : DStore} (hok : oks s.cells) (hr : realsOk s = true) {d o : List Int} (hd : Byt d) (ho : Byt o) {p : Nat} (hp : p ≤ s.reals.length) (hlo : ∀ m, m < p → cmpAt s d o m < 0) (hhi : p < s.reals.length → 0 ≤ cmpAt s d o p) :
    (realOfL s.reals d o).isSome = (decide (p < s.reals.length) && decide (cmpAt s d o p = 0)) ∧ (∀ (h : p < s.reals.length), cmpAt s d o p = 0 → realOfL s.reals d o = some s.reals[p]) := by
  have hf : ∀ (h : p < s.reals.length), cmpAt s d o p = 0 → realOfL s.reals d o = some s.reals[p] := fun h hz =>
    realOf_first h ((cmpAt_zero hok hd ho h).1 hz) fun m hm => by
      rw [Bool.eq_false_iff]
      intro hk
      have := (cmpAt_zero hok hd ho (by omega)).2 hk
      have := hlo m hm
      omega
  refine ⟨?_, hf⟩
  by_cases h : p < s.reals.length
  · by_cases hz : cmpAt s d o p = 0
    · rw [hf h hz, decide_eq_true h, decide_eq_true hz]; rfl
    · rw [decide_eq_true h, decide_eq_false hz]
      rw [realOf_none]
      · rfl
      · intro m hm
        rw [Bool.eq_false_iff]
        intro hk
        have h0 := (cmpAt_zero hok hd ho hm).2 hk
        rcases Nat.lt_trichotomy m p with hl | rfl | hl
        · have := hlo m hl; omega
        · exact hz h0
        · have h1 := hhi h
          have h2 := reals_less hr hl hm
          rw [cmpAt_less hok hd ho h] at h1
          obtain ⟨e1, e2⟩ := keyIs_iff.1 hk
          have e3 : asIn s.reals[m] = asIn (keyD d o) := by
            show (⟨(s.reals[m]).drv, (s.reals[m]).out⟩ : DIn) = ⟨d, o⟩
            rw [e1, e2]
          rw [e3, h1] at h2
          cases h2
  · rw [decide_eq_false h, Bool.false_and, realOf_none]
    · rfl
    · intro m hm
      rw [Bool.eq_false_iff]
      intro hk
      have h0 := (cmpAt_zero hok hd ho hm).2 hk
      have := hlo m (by omega)
      omega

end Go.Proofs.YtmhapnlgakkljaaGreatDoor
