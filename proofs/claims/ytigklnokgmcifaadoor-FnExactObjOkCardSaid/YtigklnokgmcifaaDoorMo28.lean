/-
  Parts of the proof: DataS, Iter, ShaO.
-/
import Derived.Test.YtigklnokgmcifaaDoorMo16
import Derived.Test.YtigklnokgmcifaaDoorMo21
import Derived.Test.YtigklnokgmcifaaDoorMo4
import Derived.Shelf.Abstract
import Derived.WalkKit
import Derived.OwnWalkIn
import Derived.TacticsInMore
import Derived.StillTailTactics
import Derived.Deep.RegionHeld3
import Derived.IntWalk

/-
  The model's TreeData.
-/
namespace Go.Proofs.YtigklnokgmcifaaDoor
open Go.RowKit
set_option linter.unusedVariables false

mutual
/-- The data of all nodes, in order. -/
def T.dat : T → List Int
  | .node _ d _ ks => d ++ T.dats ks
def T.dats : List T → List Int
  | [] => []
  | t :: ts => t.dat ++ T.dats ts
end
theorem T.dats_next {ks : List T} {j : Nat} (h : j < ks.length) : T.dats (ks.take (j + 1)) = T.dats (ks.take j) ++ (ks[j]).dat := by
  induction ks generalizing j with
  | nil => simp at h
  | cons t r ih =>
    cases j with
    | zero => simp [T.dats]
    | succ j =>
      have := ih (j := j) (by simpa using h)
      simp only [List.take_succ_cons, T.dats, List.getElem_cons_succ, List.append_assoc] at *
      rw [this]
theorem T.dats_take (ks : List T) (j : Nat) : (T.dats (ks.take j)).length ≤ (T.dats ks).length := by
  induction ks generalizing j with
  | nil => simp [T.dats]
  | cons t r ih =>
    cases j with
    | zero => simp [T.dats]
    | succ j =>
      have := ih j
      simp only [List.take_succ_cons, T.dats, List.length_append]
      omega

def DatAt (t : T) : Prop := ∀ (l : List Int) (v : Value) (q : Q) (lo : Nat) (w w0 : World), w.ownsRow lo 5 1 v l.length (bs l) → w0.heap.size = lo → Below lo w0 w → TIn w0 t q → l.length + t.dat.length ≤ 1099511627776 →
  Calls Tryd.prog 30 #[v, q.val] w fun e w' => ∃ v', e = .returned v' ∧ w'.ownsRow lo 5 1 v' (l ++ t.dat).length (bs (l ++ t.dat)) ∧ Holds lo w w'

set_option maxRecDepth 20000 in
set_option maxHeartbeats 1600000 in
theorem specData : ∀ t : T, DatAt t := by
  intro t
  induction t using T.ind with
  | h k d ns ks ih =>
    intro l v q lo w w0 hv h0 hb hq hlen
    obtain ⟨i0, hi0, hz0, hz1, hz2⟩ := info_parts u8info
    have hlo : lo ≤ w.heap.size := by rw [← h0]; exact hb.size
    obtain ⟨A, c, A', c', A'', c'', ed, hc1, hc2, en, hc1', hc2', ec, hc1'', hc2''⟩ := hq.lens
    rw [TIn] at hq
    obtain ⟨hk, hdr, hn, qs, hkk, hks⟩ := hq
    rw [T.dat, List.length_append] at hlen
    obtain ⟨K, hK⟩ : ∃ K, ks.length = K := ⟨_, rfl⟩
    obtain ⟨D, hD⟩ : ∃ D, d.length = D := ⟨_, rfl⟩
    obtain ⟨N, hN⟩ : ∃ N, ns.length = N := ⟨_, rfl⟩
    rw [hD] at ed hc1 hlen
    rw [hN] at en
    rw [hK] at ec hc1''
    unfold maxLen at hc2 hc2''
    obtain ⟨wa, hwa, box, ba, hz⟩ := boxed w q 33
    rw [hk] at hwa box
    rw [ec] at hwa box
    rw [ed] at hwa box
    rw [en] at hwa box
    rw [show q.val = .agg #[.int .i64 k, .slice A D c, .slice A' N c', .slice A'' K c''] by rw [← hk, ← ed, ← en, ← ec]]
    rw [ec] at hkk
    rw [ed] at hdr
    have hva : wa.ownsRow lo 5 1 v l.length (bs l) := by rw [← hwa]; exact hv.alloc _
    have hba : Below lo w0 wa := hb.trans (ba.mono hlo)
    have hla : lo ≤ wa.heap.size := by omega
    have hda : Rd wa (.slice A D c) (bs d) := hdr.below (by rw [h0]; exact hba)
    have x1 := box.c1
    have hall : T.dat (.node k d ns ks) = d ++ T.dats ks := by rw [T.dat]
    have hlt2 : ∀ j, (T.dats (ks.take j)).length ≤ (T.dats ks).length := T.dats_take ks
    have HVA := hide hva
    have HDA := hide hda
    have HBOX := hide box
    have HKK := hide hkk
    have HKS := hide hks
    have HIH := hide ih
    have HKL := hide hK
    have HDL := hide hD
    have HALL := hide hall
    have HW0 := hide h0
    have HBA := hide hba
    have HLA := hide hla
    have HHW := hide (Holds.of_below ba hlo)
    have HLT2 := hide hlt2
    generalize hT : (T.dats ks).length = TT at *
    have HTT := hide hT
    clear box hkk hks ih hK hD hN hn ed en ec hk hc1' hc2' hall hva hda hdr h0 hba hb hv hlt2 hT ba
    go_enter Tryd.func30, Tryd.ntmps30
    go_wp2_with (at_builtin; refine wpList_app _ rfl (.tmp 6) (.tmp 8) _ rfl lo 5 i0 _ 1 Tryd.underlying22 hi0 hz0 hz1 hz2 rfl _ _ _ rfl HVA.out _ (bs d) rfl HDA.out (bs_one d) (by rw [bs_length, HDL.out]; simp only [maxLen]; omega) (by rw [bs_length, HDL.out]; omega) HLA.out ?_; intro v2 w2 own2 gr2)
    have hr2 := holds_row HVA.out gr2 HLA.out
    have o2 : w2.ownsRow lo 5 1 v2 (l ++ d ++ T.dats (ks.take 0)).length (bs (l ++ d ++ T.dats (ks.take 0))) := by
      have e0 : l ++ d ++ T.dats (ks.take 0) = l ++ d := by simp [T.dats]
      rw [e0]
      exact own_len (own_cells own2 (bs_append _ _).symm) (by rw [List.length_append, bs_length])
    have box2 := HBOX.out.holds hr2
    have x3 := box2.c3
    have HO2 := hide o2
    have HR2 := hide hr2
    have HB2 := hide box2
    clear own2 gr2 hr2 o2 box2 x1 hwa
    go_loopw [0, 5] (fun u i wr => ∃ j : Nat, j ≤ K ∧ i = .int .i64 j ∧ Hid (wr.ownsRow lo 5 1 u (l ++ d ++ T.dats (ks.take j)).length (bs (l ++ d ++ T.dats (ks.take j)))) ∧ Hid (Holds lo wa wr) ∧ C4 wr w.heap.size 33 (.int .i64 k) (.slice A D c) (.slice A' N c') (.slice A'' K c''))
      (fun _ i _ => K - (intOf i).toNat)
    case atStart => exact ⟨0, Nat.zero_le _, rfl, HO2, HR2, HB2.out⟩
    case round =>
      obtain ⟨j, hj, rfl, HOW, HHO, box⟩ := hrel
      have x3 := box.c3
      by_cases hlt : j < K
      · have hjk : j < ks.length := by rw [HKL.out]; exact hlt
        obtain ⟨q', hq', hqt⟩ := HKS.out.at_ j ks[j] (List.getElem?_eq_getElem hjk)
        obtain ⟨b3, off3, hA3, hb3, rng⟩ := HKK.out.get hq'
        subst hA3
        have hbw : Below lo w0 wr := HBA.out.trans HHO.out.below
        have rng2 := rangeAt_below rng (by rw [HW0.out]; exact hbw) hb3
        have hnext := T.dats_next hjk
        have hl2 := HLT2.out (j + 1)
        have hl3 := HLT2.out j
        have hcall := HIH.out ks[j] (List.getElem_mem hjk) (l ++ d ++ T.dats (ks.take j)) u0 q' lo wr w0 HOW.out HW0.out hbw hqt (by
          rw [hnext, List.length_append] at hl2
          simp only [List.length_append, HDL.out]
          omega)
        have HRNG := hide rng2
        have HC := hide hcall
        have HB := hide box
        have HNX := hide hnext
        have k1 : (j : Int) < (K : Int) := by omega
        clear rng rng2 hq' hqt hbw box hnext hb3 hcall hl2 hl3
        go_wp2_with ((with_reducible refine at_slot 22 ?_); refine wpList_load_mid rfl _ _ rfl b3 (off3 + j * 4) rfl _ _ HRNG.out Tryd.underlying33 rfl (by kernel_rfl) ?_)
        refine HC.out.mono ?_
        rintro e w3 ⟨v3, rfl, o3, h3⟩
        have HO3 : Hid (w3.ownsRow lo 5 1 v3 (l ++ d ++ T.dats (ks.take (j + 1))).length (bs (l ++ d ++ T.dats (ks.take (j + 1))))) := hide (by rw [HNX.out, ← List.append_assoc]; exact o3)
        have HH3 := hide h3
        clear o3 h3 x3
        go_wp2_with fail
        go_roundw
        case rel => exact ⟨j + 1, by omega, by go_num, HO3, hide (HHO.out.trans HH3.out), HB.out.holds HH3.out⟩
        case measure => simp [intOf]; omega
      · obtain rfl : j = K := by omega
        have e2 : ks.take j = ks := List.take_of_length_le (by rw [HKL.out]; omega)
        rw [e2] at HOW
        have HF : Hid (wr.ownsRow lo 5 1 u0 (l ++ T.dat (.node k d ns ks)).length (bs (l ++ T.dat (.node k d ns ks)))) := hide (by rw [HALL.out, ← List.append_assoc]; exact HOW.out)
        clear box e2 HOW
        go_wp2
        go_ret
        exact ⟨_, rfl, HF.out, HHW.out.trans HHO.out⟩

end Go.Proofs.YtigklnokgmcifaaDoor


/-
  The program's iterator over a tree's nodes.
-/
namespace Go.Proofs.YtigklnokgmcifaaDoor
open Go.RowKit Go.Shelf
set_option linter.unusedVariables false

mutual
/-- A tree's nodes, each with its steps and its name, a directory ahead of its kids. -/
def T.pre : T → Nat → List Int → List (Nat × List Int × T)
  | .node k d ns ks, s, nm => (s, nm, .node k d ns ks) :: T.pres ks ns (s + 1)
def T.pres : List T → List (List Int) → Nat → List (Nat × List Int × T)
  | [], _, _ => []
  | t :: ts, ns, s => t.pre s (ns.headD []) ++ T.pres ts ns.tail s
end
theorem T.pres_next {ks : List T} {j : Nat} (h : j < ks.length) (ns : List (List Int)) (s : Nat) : T.pres (ks.take (j + 1)) ns s = T.pres (ks.take j) ns s ++ (ks[j]).pre s (ns.getD j []) := by
  induction ks generalizing j ns with
  | nil => simp at h
  | cons t r ih =>
    cases j with
    | zero => cases ns <;> simp [T.pres]
    | succ j =>
      have h2 := ih (j := j) (by simpa using h) ns.tail
      have h3 : ns.tail.getD j [] = ns.getD (j + 1) [] := by cases ns <;> simp [List.getD]
      rw [List.take_succ_cons, T.pres, h2, h3, List.take_succ_cons, T.pres, List.append_assoc]
      rfl
theorem T.pres_take (ks : List T) (j : Nat) (ns : List (List Int)) (s : Nat) : T.pres (ks.take j) ns s <+: T.pres ks ns s := by
  induction ks generalizing j ns with
  | nil => simp [T.pres]
  | cons t r ih =>
    cases j with
    | zero => simp [T.pres]
    | succ j =>
      rw [List.take_succ_cons, T.pres, T.pres]
      exact (List.prefix_append_right_inj _).2 (ih j ns.tail)

/-- A node as the iterator hands it out, in what lay as it began. -/
structure Nd (w0 : World) where
  s : Nat
  nm : List Int
  t : T
  v : Value
  q : Q
  hv : Rd w0 v (bs nm)
  hB : Byt nm
  hq : TIn w0 t q
  ht : t.Byts
def Nd.val {w0 : World} (x : Nd w0) : Value := .agg #[.int .i64 x.s, x.v, .int .i64 x.q.k, x.q.d, x.q.n, x.q.c]
def Nd.key {w0 : World} (x : Nd w0) : Nat × List Int × T := (x.s, x.nm, x.t)
def Nd.good {w0 : World} (x : Nd w0) : Prop := x.s < 4 ∧ x.t.nodeOk = true

/-- A block of a node's six cells. -/
def C6 (w : World) (g : Nat) (a b c d e f : Value) : Prop := w.heap[g]? = some (.cells #[a, b, c, d, e, f] 91 (0, 0))
section
variable {w w' : World} {g : Nat} {a b c d e f : Value}
theorem C6.lt (h : C6 w g a b c d e f) : g < w.heap.size := (Array.getElem?_eq_some_iff.1 h).1
theorem C6.c0 (h : C6 w g a b c d e f) : w.cell? ⟨g, 0, none⟩ = some a := by rw [cell_of_row w g 0 _ _ (0, 0) h]; rfl
theorem C6.c1 (h : C6 w g a b c d e f) : w.cell? ⟨g, 1, none⟩ = some b := by rw [cell_of_row w g 1 _ _ (0, 0) h]; rfl
theorem C6.c2 (h : C6 w g a b c d e f) : w.cell? ⟨g, 2, none⟩ = some c := by rw [cell_of_row w g 2 _ _ (0, 0) h]; rfl
theorem C6.c3 (h : C6 w g a b c d e f) : w.cell? ⟨g, 3, none⟩ = some d := by rw [cell_of_row w g 3 _ _ (0, 0) h]; rfl
theorem C6.c4 (h : C6 w g a b c d e f) : w.cell? ⟨g, 4, none⟩ = some e := by rw [cell_of_row w g 4 _ _ (0, 0) h]; rfl
theorem C6.c5 (h : C6 w g a b c d e f) : w.cell? ⟨g, 5, none⟩ = some f := by rw [cell_of_row w g 5 _ _ (0, 0) h]; rfl
theorem C6.step (h : C6 w g a b c d e f) (hb : Below w.heap.size w w') : C6 w' g a b c d e f := (hb.block g h.lt).trans h
theorem C6.holds {n₀ : Nat} (h : C6 w g a b c d e f) (hh : Holds n₀ w w') : C6 w' g a b c d e f := hh.rows g _ _ _ h (.inl rfl)
end
theorem boxed6 (w : World) (a b c d e f : Value) : ∃ wa, w.alloc (.cells #[a, b, c, d, e, f] 91) = wa ∧ C6 wa w.heap.size a b c d e f ∧ Below w.heap.size w wa ∧ wa.heap.size = w.heap.size + 1 :=
  ⟨_, rfl, heap_alloc_new w _, (Below.refl _ _).alloc (Nat.le_refl _) _, by simp⟩

theorem YieldAt.any {m m' : Nat} {P : Program} {l : Nat} {args : Array Value} {W : World} {R : Ending → World → Prop} (h : YieldAt Fence.wide m P l args W R) : YieldAt Fence.wide m' P l args W R := by
  obtain ⟨fn, tmps, assign, body, hy, h1, h2⟩ := h
  exact ⟨fn, tmps, assign, body, hy, h1, fun c cs _ => h2 c cs (fun d h => by cases h)⟩

theorem TIn.one {w : World} {t : T} {q : Q} (h : TIn w t q) : (#[.int .i64 q.k, q.d, q.n, q.c] : Array Value).all (·.oneCell') = true := by
  obtain ⟨k, d, ns, ks⟩ := t
  obtain ⟨A, c, A', c', A'', c'', e, _, _, e', _, _, e'', _, _⟩ := h.lens
  rw [e, e', e'']
  simp [Value.oneCell']
theorem TIn.form {w : World} {t : T} {q : Q} (h : TIn w t q) : ∃ A n c A' n' c' A'' n'' c'', q.d = .slice A n c ∧ q.n = .slice A' n' c' ∧ q.c = .slice A'' n'' c'' := by
  obtain ⟨k, d, ns, ks⟩ := t
  obtain ⟨A, c, A', c', A'', c'', e, _, _, e', _, _, e'', _, _⟩ := h.lens
  exact ⟨_, _, _, _, _, _, _, _, _, e, e', e''⟩
theorem TIn.one6 {w : World} {t : T} {q : Q} (h : TIn w t q) {l : List Value} {v : Value} (hv : Rd w v l) (s : Int) : (#[.int .i64 s, v, .int .i64 q.k, q.d, q.n, q.c] : Array Value).all (·.oneCell') = true := by
  obtain ⟨k, d, ns, ks⟩ := t
  obtain ⟨A, c, A', c', A'', c'', e, _, _, e', _, _, e'', _, _⟩ := h.lens
  obtain ⟨B, cv, ev, _⟩ := hv
  rw [e, e', e'', ev]
  simp [Value.oneCell']
theorem C4.range {w : World} {g : Nat} {t : TypeId} {a b c d : Value} (h : C4 w g t a b c d) : w.rangeAt g 0 [a, b, c, d] := fun j v hv => by
  rw [Nat.zero_add]
  match j, hv with
  | 0, hv => simp at hv; subst hv; exact h.c0
  | 1, hv => simp at hv; subst hv; exact h.c1
  | 2, hv => simp at hv; subst hv; exact h.c2
  | 3, hv => simp at hv; subst hv; exact h.c3
theorem C6.range {w : World} {g : Nat} {a b c d e f : Value} (h : C6 w g a b c d e f) : w.rangeAt g 0 [a, b, c, d, e, f] := fun j v hv => by
  rw [Nat.zero_add]
  match j, hv with
  | 0, hv => simp at hv; subst hv; exact h.c0
  | 1, hv => simp at hv; subst hv; exact h.c1
  | 2, hv => simp at hv; subst hv; exact h.c2
  | 3, hv => simp at hv; subst hv; exact h.c3
  | 4, hv => simp at hv; subst hv; exact h.c4
  | 5, hv => simp at hv; subst hv; exact h.c5
theorem C6.fz {w : World} {g : Nat} {a b c d e f : Value} (h : C6 w g a b c d e f) (j : Nat) : w.frozen? ⟨g, j, none⟩ = false := frozen_of_row w g j _ _ h
theorem C6.there {w : World} {g : Nat} {a b c d e f : Value} (h : C6 w g a b c d e f) : w.there g 0 6 := fun j hj => by
  refine ⟨?_, h.fz _⟩
  rw [Nat.zero_add]
  rcases (by omega : j = 0 ∨ j = 1 ∨ j = 2 ∨ j = 3 ∨ j = 4 ∨ j = 5) with rfl | rfl | rfl | rfl | rfl | rfl
  · rw [h.c0]; rfl
  · rw [h.c1]; rfl
  · rw [h.c2]; rfl
  · rw [h.c3]; rfl
  · rw [h.c4]; rfl
  · rw [h.c5]; rfl
theorem C6.all {w : World} {g : Nat} {a b c d e f : Value} (h : C6 w g a b c d e f) (x0 x1 x2 x3 x4 x5 : Value) : C6 (w.setCells g 0 [x0, x1, x2, x3, x4, x5]) g x0 x1 x2 x3 x4 x5 := by
  have h0 : C6 (w.setCell ⟨g, 0, none⟩ x0) g x0 b c d e f := heap_setCell_same w g 0 _ _ _ h
  have h1 : C6 ((w.setCell ⟨g, 0, none⟩ x0).setCell ⟨g, 1, none⟩ x1) g x0 x1 c d e f := heap_setCell_same _ g 1 _ _ _ h0
  have h2 : C6 (((w.setCell ⟨g, 0, none⟩ x0).setCell ⟨g, 1, none⟩ x1).setCell ⟨g, 2, none⟩ x2) g x0 x1 x2 d e f := heap_setCell_same _ g 2 _ _ _ h1
  have h3 : C6 ((((w.setCell ⟨g, 0, none⟩ x0).setCell ⟨g, 1, none⟩ x1).setCell ⟨g, 2, none⟩ x2).setCell ⟨g, 3, none⟩ x3) g x0 x1 x2 x3 e f := heap_setCell_same _ g 3 _ _ _ h2
  have h4 : C6 (((((w.setCell ⟨g, 0, none⟩ x0).setCell ⟨g, 1, none⟩ x1).setCell ⟨g, 2, none⟩ x2).setCell ⟨g, 3, none⟩ x3).setCell ⟨g, 4, none⟩ x4) g x0 x1 x2 x3 x4 f := heap_setCell_same _ g 4 _ _ _ h3
  exact heap_setCell_same _ g 5 _ _ _ h4
/-- A block made and filled: only that is new. -/
theorem made4 (w : World) (t : TypeId) (a b c d x0 x1 x2 x3 : Value) : ∃ wz, w.alloc (.cells #[a, b, c, d] t) = wz ∧ wz.there w.heap.size 0 4 ∧ ∃ wk, wz.setCells w.heap.size 0 [x0, x1, x2, x3] = wk ∧ C4 wk w.heap.size t x0 x1 x2 x3 ∧ Below w.heap.size w wk ∧ wk.heap.size = w.heap.size + 1 := by
  have h : C4 (w.alloc (.cells #[a, b, c, d] t)) w.heap.size t a b c d := heap_alloc_new w _
  refine ⟨_, rfl, h.there, _, rfl, h.all _ _ _ _, ?_, by simp [World.setCells]⟩
  have h0 := (Below.refl w.heap.size w).alloc (Nat.le_refl _) (Obj.cells #[a, b, c, d] t)
  exact (((h0.setCell (p := ⟨w.heap.size, 0, none⟩) (Nat.le_refl _) x0).setCell (p := ⟨w.heap.size, 1, none⟩) (Nat.le_refl _) x1).setCell (p := ⟨w.heap.size, 2, none⟩) (Nat.le_refl _) x2).setCell (p := ⟨w.heap.size, 3, none⟩) (Nat.le_refl _) x3
theorem made6 (w : World) (a b c d e f x0 x1 x2 x3 x4 x5 : Value) : ∃ wz, w.alloc (.cells #[a, b, c, d, e, f] 91) = wz ∧ wz.there w.heap.size 0 6 ∧ ∃ wk, wz.setCells w.heap.size 0 [x0, x1, x2, x3, x4, x5] = wk ∧ C6 wk w.heap.size x0 x1 x2 x3 x4 x5 ∧ Below w.heap.size w wk ∧ wk.heap.size = w.heap.size + 1 := by
  have h : C6 (w.alloc (.cells #[a, b, c, d, e, f] 91)) w.heap.size a b c d e f := heap_alloc_new w _
  refine ⟨_, rfl, h.there, _, rfl, h.all _ _ _ _ _ _, ?_, by simp [World.setCells]⟩
  have h0 := (Below.refl w.heap.size w).alloc (Nat.le_refl _) (Obj.cells #[a, b, c, d, e, f] 91)
  exact (((((h0.setCell (p := ⟨w.heap.size, 0, none⟩) (Nat.le_refl _) x0).setCell (p := ⟨w.heap.size, 1, none⟩) (Nat.le_refl _) x1).setCell (p := ⟨w.heap.size, 2, none⟩) (Nat.le_refl _) x2).setCell (p := ⟨w.heap.size, 3, none⟩) (Nat.le_refl _) x3).setCell (p := ⟨w.heap.size, 4, none⟩) (Nat.le_refl _) x4).setCell (p := ⟨w.heap.size, 5, none⟩) (Nat.le_refl _) x5

/-- What the iterator does with its rounds. -/
def ProdAt (t : T) : Prop := ∀ (w0 : World) (x : Nd w0) (l : Nat) (J Jx : List (Nd w0) → World → Prop) (full : List (Nat × List Int × T)),
  (∀ pre W W', J pre W → Below W.heap.size W W' → J pre W') →
  (∀ pre W, J pre W → ∀ y ∈ pre, y.good) →
  (∀ pre (y : Nd w0) W, J pre W → pre.map Nd.key ++ [y.key] <+: full → Below w0.heap.size w0 W → YieldAt Fence.wide 0 Tryd.prog l #[y.val] W fun e W' =>
    (e = .returned (.bool true) ∧ J (pre ++ [y]) W' ∧ Holds w0.heap.size W W') ∨ (e = .returned (.bool false) ∧ Jx (pre ++ [y]) W')) →
  x.t = t → ∀ (pre : List (Nd w0)) (W : World), J pre W → Below w0.heap.size w0 W → pre.map Nd.key ++ t.pre x.s x.nm <+: full →
  Calls Tryd.prog 97 #[x.val, .func (.yield l) #[] #[]] W fun e W' =>
    (e = .returned (.bool true) ∧ (∃ xs : List (Nd w0), xs.map Nd.key = t.pre x.s x.nm ∧ J (pre ++ xs) W') ∧ Holds w0.heap.size W W') ∨
    (e = .returned (.bool false) ∧ ∃ xs : List (Nd w0), xs.map Nd.key <+: t.pre x.s x.nm ∧ Jx (pre ++ xs) W')

set_option maxRecDepth 20000 in
set_option maxHeartbeats 600000 in
theorem produce : ∀ t : T, ProdAt t := by
  intro t
  induction t using T.ind with
  | h k d ns ks ih =>
    intro w0 x l J Jx full hJ hG hY hx pre W hj hw hfull
    have hq := x.hq
    have htB := x.ht
    have hkey : x.key = (x.s, x.nm, .node k d ns ks) := by rw [Nd.key, hx]
    have hgood : ∀ W, J (pre ++ [x]) W → x.s < 4 ∧ (T.node k d ns ks).nodeOk = true := fun W h => by
      have h2 := hG _ W h x (by simp)
      rwa [Nd.good, hx] at h2
    rw [hx] at hq htB
    obtain ⟨s, hs⟩ : ∃ s, x.s = s := ⟨_, rfl⟩
    obtain ⟨v, hv⟩ : ∃ v, x.v = v := ⟨_, rfl⟩
    obtain ⟨nm, hnm⟩ : ∃ nm, x.nm = nm := ⟨_, rfl⟩
    rw [hs] at hgood
    rw [hs, hnm] at hfull hkey ⊢
    obtain ⟨A, c, A', c', A'', c'', ed, hc1, hc2, en, hc1', hc2', ec, hc1'', hc2''⟩ := hq.lens
    rw [TIn] at hq
    obtain ⟨hk, _, hn, qs, hkk, hks⟩ := hq
    rw [T.Byts] at htB
    obtain ⟨_, hBn, hBk⟩ := htB
    obtain ⟨N, hN⟩ : ∃ N, ns.length = N := ⟨_, rfl⟩
    obtain ⟨K, hK⟩ : ∃ K, ks.length = K := ⟨_, rfl⟩
    obtain ⟨D, hD⟩ : ∃ D, d.length = D := ⟨_, rfl⟩
    rw [hD] at ed
    rw [hN] at en
    rw [hK] at ec hc1''
    rw [en] at hn
    rw [ec] at hkk
    unfold maxLen at hc2' hc2''
    have hval : x.val = .agg #[.int .i64 s, v, .int .i64 k, .slice A D c, .slice A' N c', .slice A'' K c''] := by rw [Nd.val, hs, hv, hk, ed, en, ec]
    obtain ⟨wa, hwa, box, ba, hz⟩ := boxed6 W (.int .i64 s) v (.int .i64 k) (.slice A D c) (.slice A' N c') (.slice A'' K c'')
    have hja := hJ pre W wa hj ba
    have hwa0 : Below w0.heap.size w0 wa := hw.trans (ba.mono hw.size)
    have hba := Holds.of_below ba hw.size
    rw [T.pre] at hfull ⊢
    have hY1 := hY pre x wa hja (by rw [hkey]; exact ((List.prefix_append_right_inj _).2 ⟨_, rfl⟩).trans hfull) hwa0
    rw [hval] at hY1 ⊢
    obtain ⟨fn, tmps, assign, body, hy, hR⟩ := YieldAt.any (m' := 2) hY1
    have HBOX := hide box
    have x0 := box.c0
    have x1 := box.c1
    have x2 := box.c2
    have x3 := box.c3
    have x4 := box.c4
    have x5 := box.c5
    have HHY := hide hY
    have HIH := hide ih
    have HHJ := hide hJ
    have HHG := hide hG
    have HGO := hide hgood
    have HKEY := hide hkey
    have HKK := hide hkk
    have HKS := hide hks
    have HNN := hide hn
    have HBN := hide hBn
    have HBKK := hide hBk
    have HNL := hide hN
    have HKL := hide hK
    have HFULL := hide hfull
    have HBA := hide hba
    have HBW := hide hwa0
    have HV := hide hv
    clear hv
    clear box ih hY hkk hks hn hBn hBk hN hK hD hY1 hJ hG hgood hkey hfull hba hwa0 hw hj hja ba hs hnm hx hk ed en ec hval
    go_enter Tryd.func97, Tryd.ntmps97
    go_upto_region 1 with (fail)
    refine (wpIn_wide (n := 3)).1 ?_
    gi_wp2_with (refine hR.mono ?_; rintro e W2 (⟨rfl, hJ2, hb2⟩ | ⟨rfl, hJx2⟩))
    · obtain ⟨hs4, hno⟩ := HGO.out _ hJ2
      have hNK : 0 < K → N = K := fun h => by
        rw [T.nodeOk, HNL.out, HKL.out] at hno
        split at hno
        · simp at hno; omega
        · simp at hno; omega
      have HW2 := hide (HBW.out.trans hb2.below)
      have HH2 := hide hb2
      have HJ2 := hide hJ2
      have HB2 := hide (HBOX.out.holds hb2)
      have x5 := HB2.out.c5
      have HNK := hide hNK
      clear hy hR hno hb2 hJ2 hNK x0 x1 x2 x3 x4 hwa
      go_wp2
      go_loopw [16] (fun i wr => ∃ j : Nat, j ≤ K ∧ i = .int .i64 j ∧ Hid (∃ ys : List (Nd w0), ys.map Nd.key = T.pres (ks.take j) ns (s + 1) ∧ J (pre ++ x :: ys) wr) ∧ Hid (Holds w0.heap.size wa wr) ∧ C6 wr W.heap.size (.int .i64 s) v (.int .i64 k) (.slice A D c) (.slice A' N c') (.slice A'' K c''))
        (fun i _ => K - (intOf i).toNat)
      case atStart => exact ⟨0, Nat.zero_le _, rfl, hide ⟨[], by simp [T.pres], HJ2.out⟩, HH2, HB2.out⟩
      case round =>
        obtain ⟨j, hj, rfl, HYS, HH, box⟩ := hrel
        by_cases hlt : j < K
        · have hjk : j < ks.length := by rw [HKL.out]; exact hlt
          obtain rfl := HNK.out (by omega)
          have hjn : j < ns.length := by rw [HNL.out]; exact hlt
          obtain ⟨q', hq', hqt⟩ := HKS.out.at_ j ks[j] (List.getElem?_eq_getElem hjk)
          obtain ⟨b3, off3, hA3, hb3, rng⟩ := HKK.out.get hq'
          subst hA3
          have hbw : Below w0.heap.size w0 wr := HBW.out.trans HH.out.below
          have rng2 := rangeAt_below rng hbw hb3
          obtain ⟨b, off, u, hA', hblt, cu, ru⟩ := HNN.out.get hjn
          subst hA'
          have q1 := (hbw.cell (p := ⟨b, off + j, none⟩) hblt).trans cu
          have k1 : (j : Int) < (N : Int) := by omega
          have k0 : (0 : Int) ≤ (j : Int) := by omega
          have k2 : (j : Int).toNat = j := by omega
          obtain ⟨qk, qd, qn, qc⟩ := q'
          obtain ⟨A1, n1, c1, A2, n2, c2, A3, n3, c3, hqd, hqn, hqc⟩ := hqt.form
          obtain ⟨A4, cap4, hu, hu1, hu2, hu3⟩ := id ru
          dsimp only at hqd hqn hqc
          subst hqd hqn hqc hu
          obtain ⟨L4, hL4⟩ : ∃ L4, (bs (ns.getD j [])).length = L4 := ⟨_, rfl⟩
          rw [hL4] at q1 ru
          dsimp only at rng2
          have HRNG := hide rng2
          have HBOXR := hide box
          have HQ1 := hide q1
          have HBWR := hide hbw
          have HRU := hide ru
          have HQT := hide hqt
          have HQQ := hide hq'
          obtain ⟨wz, hwz, hth4, wk, hwk, kid, bk, zk⟩ := made4 wr 33 (.int .i64 0) (.slice none 0 0) (.slice none 0 0) (.slice none 0 0) (.int .i64 qk) (.slice A1 n1 c1) (.slice A2 n2 c2) (.slice A3 n3 c3)
          have hone := hqt.one
          have hone6 := hqt.one6 ru ((s + 1 : Nat) : Int)
          rw [← hwz] at hth4
          have HTH4 := hide hth4
          have HONE := hide hone
          have HONE6 := hide hone6
          have HWK := hide hwk
          have HWZ := hide hwz
          have HKID := hide kid
          have HBK := hide bk
          have HZK := hide zk
          clear box rng rng2 q1 cu ru hqt hq' hbw x5 hth4 hone hone6 hwk hwz kid bk zk
          go_wp2_with (first
            | ((with_reducible refine at_slot 20 ?_); refine wpList_load_mid rfl _ _ rfl b3 (off3 + j * 4) rfl _ _ HRNG.out Tryd.underlying33 rfl (by kernel_rfl) ?_)
            | ((with_reducible refine at_none ?_); refine wpList_store_mid rfl _ _ _ rfl wr.heap.size 0 #[.int .i64 qk, .slice A1 n1 c1, .slice A2 n2 c2, .slice A3 n3 c3] rfl rfl HTH4.out (by kernel_rfl) HONE.out ?_; rw [HWZ.out]; change wpList _ _ _ _ _ (wz.setCells wr.heap.size 0 [.int .i64 qk, .slice A1 n1 c1, .slice A2 n2 c2, .slice A3 n3 c3]); rw [HWK.out]))
          have hq1 := HQ1.out
          have c0 := (HBOXR.out.step HBK.out).c0
          have c4 := (HBOXR.out.step HBK.out).c4
          have q1 : wk.cell? ⟨b, off + j, none⟩ = some (.slice A4 L4 cap4) := (HBK.out.cell (p := ⟨b, off + j, none⟩) (Nat.lt_of_lt_of_le hblt HBWR.out.size)).trans hq1
          have y0 := HKID.out.c0
          have y1 := HKID.out.c1
          have y2 := HKID.out.c2
          have y3 := HKID.out.c3
          have hwr : IntKind.i64.wrap ((s : Int) + 1) = (s : Int) + 1 := IntWalk.i64_in _ (by omega)
          clear hq1
          go_region_held3 (fun w' => w'.cell? ⟨W.heap.size, 0, none⟩ = some (.int .i64 s) ∧ w'.cell? ⟨W.heap.size, 4, none⟩ = some (.slice (some ⟨b, off, none⟩) N c') ∧ w'.cell? ⟨b, off + j, none⟩ = some (.slice A4 L4 cap4) ∧ w'.cell? ⟨wr.heap.size, 0, none⟩ = some (.int .i64 qk) ∧ w'.cell? ⟨wr.heap.size, 1, none⟩ = some (.slice A1 n1 c1) ∧ w'.cell? ⟨wr.heap.size, 2, none⟩ = some (.slice A2 n2 c2) ∧ w'.cell? ⟨wr.heap.size, 3, none⟩ = some (.slice A3 n3 c3))
            (first | go_keep) (first | fail)
          obtain ⟨wn, hwn, nbox, bn, zn⟩ := boxed6 wk (.int .i64 ((s : Int) + 1)) (.slice A4 L4 cap4) (.int .i64 qk) (.slice A1 n1 c1) (.slice A2 n2 c2) (.slice A3 n3 c3)
          rw [hwn]
          obtain ⟨wm, hwm⟩ : ∃ wm, wn.drew = wm := ⟨_, rfl⟩
          have bm : Below wr.heap.size wr wm := by rw [← hwm]; exact (HBK.out.trans (bn.mono HBK.out.size)).drew
          have mbox : C6 wm wk.heap.size (.int .i64 ((s : Int) + 1)) (.slice A4 L4 cap4) (.int .i64 qk) (.slice A1 n1 c1) (.slice A2 n2 c2) (.slice A3 n3 c3) := by rw [← hwm]; exact nbox
          rw [hwm]
          have obox := HBOXR.out.step bm
          have hbm : Below w0.heap.size w0 wm := HBWR.out.trans (bm.mono HBWR.out.size)
          have hhm : Holds w0.heap.size wa wm := HH.out.trans (Holds.of_below bm HBWR.out.size)
          obtain ⟨ys, hys, hJys⟩ := HYS.out
          have hJm := HHJ.out _ wr wm hJys bm
          obtain ⟨y, hy⟩ : ∃ y : Nd w0, y = ⟨s + 1, ns.getD j [], ks[j], .slice A4 L4 cap4, ⟨qk, .slice A1 n1 c1, .slice A2 n2 c2, .slice A3 n3 c3⟩, HRU.out, HBN.out _ (by simp [List.getD, List.getElem?_eq_getElem hjn]), HQT.out, T.Bytss.mem HBKK.out _ (List.getElem_mem hjk)⟩ := ⟨_, rfl⟩
          have hyv : y.val = .agg #[.int .i64 ((s : Int) + 1), .slice A4 L4 cap4, .int .i64 qk, .slice A1 n1 c1, .slice A2 n2 c2, .slice A3 n3 c3] := by rw [hy]; rfl
          have hfj : (pre ++ x :: ys).map Nd.key ++ (ks[j]).pre (s + 1) (ns.getD j []) <+: full := by
            rw [List.map_append, List.map_cons, HKEY.out, hys, List.append_assoc, List.cons_append, ← T.pres_next hjk]
            exact ((List.prefix_append_right_inj _).2 ((List.prefix_cons_inj _).2 (T.pres_take ks (j + 1) ns (s + 1)))).trans HFULL.out
          have hcall := HIH.out ks[j] (List.getElem_mem hjk) w0 y l J Jx full HHJ.out HHG.out HHY.out (by rw [hy]) (pre ++ x :: ys) wm hJm hbm (by rw [hy]; exact hfj)
          rw [hyv] at hcall
          rw [show y.s = s + 1 by rw [hy], show y.nm = ns.getD j [] by rw [hy]] at hcall
          have hnx := T.pres_next hjk ns (s + 1)
          have x0 := mbox.c0
          have x1 := mbox.c1
          have x2 := mbox.c2
          have x3 := mbox.c3
          have x4 := mbox.c4
          have x5 := mbox.c5
          have HCALL := hide hcall
          have HOB := hide obox
          have HHM := hide hhm
          have HYS2 := hide hys
          have HNX := hide hnx
          have HPT := hide (T.pres_take ks (j + 1) ns (s + 1))
          clear hcall obox hhm hys hnx hwn nbox bn zn hwm bm mbox hbm hJys hJm hy hyv hfj c0 c4 q1 y0 y1 y2 y3 hwr
          go_wp2_with fail
          refine HCALL.out.mono ?_
          rintro e w5 (⟨rfl, ⟨xs, hxs, hJ5⟩, hh5⟩ | ⟨rfl, xs, hxs, hJx5⟩)
          · have HXS := hide hxs
            have HJ5 := hide hJ5
            have HH5 := hide hh5
            clear hxs hJ5 hh5 x0 x1 x2 x3 x4 x5
            go_wp2_with fail
            go_roundw
            case rel => exact ⟨j + 1, by omega, by go_num, hide ⟨ys ++ xs, by rw [List.map_append, HYS2.out, HXS.out, HNX.out], by rw [← List.cons_append, ← List.append_assoc]; exact HJ5.out⟩, hide (HHM.out.trans HH5.out), HOB.out.holds HH5.out⟩
            case measure => simp [intOf]; omega
          · have HXS := hide hxs
            have HJ5 := hide hJx5
            clear hxs hJx5 x0 x1 x2 x3 x4 x5
            go_wp2_with fail
            go_ret
            refine .inr ⟨rfl, x :: (ys ++ xs), ?_, by rw [← List.cons_append, ← List.append_assoc]; exact HJ5.out⟩
            rw [List.map_cons, List.map_append, HKEY.out, HYS2.out]
            refine (List.prefix_cons_inj _).2 (List.IsPrefix.trans ?_ HPT.out)
            rw [HNX.out]
            exact (List.prefix_append_right_inj _).2 HXS.out
        · obtain rfl : j = K := by omega
          have e2 : ks.take j = ks := List.take_of_length_le (by rw [HKL.out]; omega)
          rw [e2] at HYS
          clear box x5
          go_wp2
          go_ret
          obtain ⟨ys, h1, h2⟩ := HYS.out
          exact .inl ⟨rfl, ⟨x :: ys, by rw [List.map_cons, HKEY.out, h1], h2⟩, HBA.out.trans HH.out⟩
    · clear x0 x1 x2 x3 x4 x5 hy hR hwa
      go_wp2
      go_ret
      exact .inr ⟨rfl, [x], by rw [List.map_cons, HKEY.out]; exact ⟨_, rfl⟩, hJx2⟩

end Go.Proofs.YtigklnokgmcifaaDoor


/-
  The program's Sha256.
-/
namespace Go.Proofs.YtigklnokgmcifaaDoor
open Go.RowKit
set_option linter.unusedVariables false

/-- What comes of the three calls, whatever the two slices are called. -/
theorem shaEnd (l : List Int) (hB : Byt l) (n : Nat) (hn : l.length / 64 = n) (s1 s2 : S8) (m : Nat) (h1 : hashN S0 (l.take (64 * n)) n = s1) (hm : (l.drop (64 * n) ++ tailB l.length).length = 64 * m) (h2 : hashN s1 (l.drop (64 * n) ++ tailB l.length) m = s2) :
    shaL l = outB s2.list := by
  subst hn h1 h2
  rw [shaL_parts, hm]
  congr 3
  omega

set_option maxRecDepth 20000 in
set_option maxHeartbeats 3200000 in
theorem implShaIn (l : List Int) (hB : Byt l) (v : Value) (w : World) (hv : Rd w v (bs l)) (hl : l.length ≤ 100000) (hT : Tab w) :
    Calls Tryd.prog 85 #[v] w fun e w' => ∃ v', e = .returned v' ∧ Own 5 w.heap.size w'.heap.size w' v' (bs (shaL l)) ∧ Below w.heap.size w w' := by
  obtain ⟨A, c, hV, hc1, hc2, hrd⟩ := id hv
  rw [bs_length] at *
  unfold maxLen at hc2
  subst hV
  obtain ⟨n, hn⟩ : ∃ n, l.length / 64 = n := ⟨_, rfl⟩
  obtain ⟨m, hm⟩ : ∃ m, (l.drop (64 * n) ++ tailB l.length).length = 64 * m := ⟨(l.drop (64 * n) ++ tailB l.length).length / 64, by
    have := pad_mod l.length
    rw [List.length_append, List.length_drop]
    omega⟩
  have hmb : m ≤ 10 := by
    have := pad_le l.length
    rw [List.length_append, List.length_drop] at hm
    omega
  obtain ⟨s1, h1⟩ : ∃ s1, hashN S0 (l.take (64 * n)) n = s1 := ⟨_, rfl⟩
  have hs1 : s1.Ok := by rw [← h1]; exact hashN_ok S0_ok _ _
  obtain ⟨s2, h2⟩ : ∃ s2, hashN s1 (l.drop (64 * n) ++ tailB l.length) m = s2 := ⟨_, rfl⟩
  have hs2 : s2.Ok := by rw [← h2]; exact hashN_ok hs1 _ _
  rw [shaEnd l hB n hn s1 s2 m h1 hm h2]
  have hz : zpad (l.drop (64 * n)).length = zpad l.length := by rw [← hn]; exact zpad_rest l
  -- the two slices
  have hA : ∀ v1 W, Rd w v1 (bs (l.take (64 * n))) → At W W.heap.size.pred 135 (wd S0.list) → True := fun _ _ _ _ => trivial
  clear hA
  have ht : (l.take (64 * n)).length = 64 * n := by rw [List.length_take]; omega
  have hd : (l.drop (64 * n)).length = l.length - 64 * n := List.length_drop
  have first : ∀ (v1 : Value) (g : Nat) (w1 : World), Rd w v1 (bs (l.take (64 * n))) → Below w.heap.size w w1 → w.heap.size ≤ g → At w1 g 135 (wd S0.list) →
      Calls Tryd.prog 113 #[.pointer (some ⟨g, 0, none⟩), v1] w1 fun e w2 => (∃ v, e = .returned v) ∧ At w2 g 135 (wd s1.list) ∧ Outside g (g + 1) w1 w2 := fun v1 g w1 hr hb hg hat => by
    have h := mixAll (l.take (64 * n)) (hB.take _) n ht (by omega) S0 S0_ok g v1 w1 (fun W hO => hr.far hb hO hg) hat (hT.step hb) (Nat.lt_of_lt_of_le hT.lt hg)
    rw [h1] at h
    exact h
  have second : ∀ (v2 : Value) (q : Int) (W : World), q = (l.length : Int) → Rd W v2 (bs (l.drop (64 * n))) →
      Calls Tryd.prog 114 #[v2, .int .i64 q] W fun e w' => ∃ v', e = .returned v' ∧ w'.ownsRow W.heap.size 5 1 v' (64 * m) (bs (l.drop (64 * n) ++ tailB l.length)) ∧ Below W.heap.size W w' := fun v2 q W hq hr => by
    subst hq
    have h := padded (l.drop (64 * n)) v2 l.length W hr hl (by rw [hd]; omega) hz
    rw [hm] at h
    exact h
  have third : ∀ (v3 : Value) (g lo : Nat) (W : World), W.ownsRow lo 5 1 v3 (64 * m) (bs (l.drop (64 * n) ++ tailB l.length)) → g < lo → At W g 135 (wd s1.list) → Tab W → w.heap.size ≤ g →
      Calls Tryd.prog 113 #[.pointer (some ⟨g, 0, none⟩), v3] W fun e w2 => (∃ v, e = .returned v) ∧ At w2 g 135 (wd s2.list) ∧ Outside g (g + 1) W w2 := fun v3 g lo W ho hlo hat hT2 hg => by
    have h := mixAll (l.drop (64 * n) ++ tailB l.length) ((hB.drop _).app (tailB_byt _)) m hm (by omega) s1 hs1 g v3 W
      (fun W' hO => ((Own.of ho (by rw [bs_length, hm])).outside hO (.inr hlo)).rd) hat hT2 (Nat.lt_of_lt_of_le hT.lt hg)
    rw [h2] at h
    exact h
  have last : ∀ (g : Nat) (W : World), At W g 135 (wd s2.list) →
      Calls Tryd.prog 115 #[.pointer (some ⟨g, 0, none⟩)] W fun e w' => ∃ v', e = .returned v' ∧ Own 5 W.heap.size w'.heap.size w' v' (bs (outB s2.list)) ∧ Below W.heap.size W w' := fun g W hat =>
    hashSum s2.list rfl (S8.list_32 hs2) g W hat
  have HT := hide hT
  have hdiv : (l.length : Int) / 64 * 64 = ((64 * n : Nat) : Int) := by omega
  have H1 : Hid (∀ k, k = 64 * n → Rd w (.slice A k c) (bs (l.take (64 * n)))) := hide (fun k hk => by
    subst hk
    cases A with
    | none =>
      have h0 : l.length = 0 := by
        rcases Nat.eq_zero_or_pos l.length with h | h
        · exact h
        · obtain ⟨b, off, hA, _⟩ := hrd h
          cases hA
      have e : l.take (64 * n) = [] := by rw [List.eq_nil_of_length_eq_zero h0, List.take_nil]
      rw [e]
      exact Rd.empty (by omega) (by unfold maxLen; omega)
    | some a =>
      rcases Nat.eq_zero_or_pos l.length with h | h
      · have e : l.take (64 * n) = [] := by rw [List.eq_nil_of_length_eq_zero h, List.take_nil]
        rw [e]
        exact Rd.empty (by omega) (by unfold maxLen; omega)
      · obtain ⟨b, off, hA, hblt, hcell⟩ := hrd h
        cases hA
        have hp := Rd.part hcell hblt (k := 0) (n := 64 * n) (by omega) hc1 (by unfold maxLen; omega) rfl
        simpa using hp)
  have H2 : Hid (∀ A2 k c2, k = l.length - 64 * n → (k = 0 ∨ ∃ b off, A = some ⟨b, off, none⟩ ∧ A2 = some ⟨b, off + 64 * n, none⟩) → c2 = c - 64 * n → Rd w (.slice A2 k c2) (bs (l.drop (64 * n)))) := hide (fun A2 k c2 hk hh hc => by
    have e : (l.drop (64 * n)).take (l.length - 64 * n) = l.drop (64 * n) := List.take_of_length_le (by rw [List.length_drop]; omega)
    rcases Nat.eq_zero_or_pos k with h0 | h0
    · have e0 : l.drop (64 * n) = [] := List.drop_eq_nil_of_le (by omega)
      rw [e0]
      exact Rd.empty h0 (by unfold maxLen; omega)
    · rcases hh with h | ⟨b, off, rfl, rfl⟩
      · omega
      · obtain ⟨b2, off2, hA, hblt, hcell⟩ := hrd (by omega)
        cases hA
        have hp := Rd.part hcell hblt (k := 64 * n) (n := l.length - 64 * n) (by omega) hc1 (by unfold maxLen; omega) hk
        rw [e] at hp
        rw [hc]
        exact hp)
  have u0 : (0 : Int) ≤ ((64 * n : Nat) : Int) := by omega
  have u1 : ((64 * n : Nat) : Int) ≤ (l.length : Int) := by omega
  have u2 : ((64 * n : Nat) : Int) ≤ (c : Int) := by omega
  have Z0 : Hid (A = none → l.length = 0) := hide (fun hA => by
    rcases Nat.eq_zero_or_pos l.length with h | h
    · exact h
    · obtain ⟨b, off, hA2, _⟩ := hrd h
      rw [hA] at hA2
      cases hA2)
  have Z1 : Hid (0 < l.length → ∀ a, A = some a → ∃ b off, a = ⟨b, off, none⟩) := hide (fun h a hA => by
    obtain ⟨b, off, hA2, _⟩ := hrd h
    rw [hA] at hA2
    cases hA2
    exact ⟨_, _, rfl⟩)
  have HB := hide hB
  have G1 := hide first
  have G2 := hide second
  have G3 := hide third
  have G4 := hide last
  clear hv hrd hB first second third last hm hmb h1 hs1 h2 hs2 hz ht hd hT
  have hdiv2 : (l.length : Int) / 64 * 64 = 64 * (n : Int) := by omega
  have u3 : 64 * (n : Int) ≤ (l.length : Int) := by omega
  have u4 : 64 * (n : Int) ≤ (c : Int) := by omega
  clear hdiv hn u0 u1 u2
  cases A with
  | none =>
    have hl0 : l.length = 0 := Z0.out rfl
    have hn0 : n = 0 := by omega
    subst hn0
    go_enter Tryd.func85, Tryd.ntmps85
    go_wp2_with (first
      | ((with_reducible refine at_slot 8 ?_); refine wpList_build_as (wd S0.list) rfl _ _ rfl (by kernel_rfl) ?_)
      | ((with_reducible refine at_slot 3 ?_); refine wpList_alloc_zero rfl _ rfl (wd Z8) (by kernel_rfl) ?_; intro w1 at1 b1 z1)
      | ((with_reducible refine at_none ?_); refine wpList_store_all rfl _ _ _ rfl w.heap.size (wd S0.list) rfl rfl _ _ at1 (by kernel_rfl) (by kernel_rfl) (wd_one _) ?_; intro w2 at2 b2 z2 n2; have bw2 := b1.trans (b2 _ (Nat.le_refl _)))
      | (go_at_call 113; (with_reducible refine (G1.out _ w.heap.size w2 (H1.out _ (by omega)) bw2 (Nat.le_refl _) at2).mono ?_); rintro e w3 ⟨⟨v3, rfl⟩, at3, o3⟩; have bw3 := o3.below bw2 (Nat.le_refl _) bw2.size; have t3 := HT.out.step bw3)
      | (go_at_call 114; (with_reducible refine (G2.out _ _ w3 (by omega) (Rd.below (H2.out _ _ _ (by omega) (.inl (by omega)) (by omega)) bw3)).mono ?_); rintro e w4 ⟨v4, rfl, o4, b4⟩; have at4 := at3.step b4; have bw4 := bw3.trans (b4.mono bw3.size))
      | (go_at_call 113; (with_reducible refine (G3.out _ w.heap.size w3.heap.size w4 o4 at3.lt at4 (t3.step b4) (Nat.le_refl _)).mono ?_); rintro e w5 ⟨⟨v5, rfl⟩, at5, o5⟩; have bw5 := o5.below bw4 (Nat.le_refl _) bw4.size)
      | (go_at_call 115; (with_reducible refine (G4.out w.heap.size w5 at5).mono ?_); rintro e w6 ⟨v6, rfl, o6, b6⟩))
    go_ret
    exact ⟨_, rfl, o6.wide bw5.size (Nat.le_refl _) (Nat.le_refl _), bw5.trans (b6.mono bw5.size)⟩
  | some a =>
    by_cases hcw : c = 64 * n
    · subst hcw
      have hll : l.length = 64 * n := by omega
      go_enter Tryd.func85, Tryd.ntmps85
      go_wp2_with (first
        | ((with_reducible refine at_slot 8 ?_); refine wpList_build_as (wd S0.list) rfl _ _ rfl (by kernel_rfl) ?_)
        | ((with_reducible refine at_slot 3 ?_); refine wpList_alloc_zero rfl _ rfl (wd Z8) (by kernel_rfl) ?_; intro w1 at1 b1 z1)
        | ((with_reducible refine at_none ?_); refine wpList_store_all rfl _ _ _ rfl w.heap.size (wd S0.list) rfl rfl _ _ at1 (by kernel_rfl) (by kernel_rfl) (wd_one _) ?_; intro w2 at2 b2 z2 n2; have bw2 := b1.trans (b2 _ (Nat.le_refl _)))
        | (go_at_call 113; (with_reducible refine (G1.out _ w.heap.size w2 (H1.out _ (by omega)) bw2 (Nat.le_refl _) at2).mono ?_); rintro e w3 ⟨⟨v3, rfl⟩, at3, o3⟩; have bw3 := o3.below bw2 (Nat.le_refl _) bw2.size; have t3 := HT.out.step bw3)
        | (go_at_call 114; (with_reducible refine (G2.out _ _ w3 (by omega) (Rd.below (H2.out _ _ _ (by omega) (.inl (by omega)) (by omega)) bw3)).mono ?_); rintro e w4 ⟨v4, rfl, o4, b4⟩; have at4 := at3.step b4; have bw4 := bw3.trans (b4.mono bw3.size))
        | (go_at_call 113; (with_reducible refine (G3.out _ w.heap.size w3.heap.size w4 o4 at3.lt at4 (t3.step b4) (Nat.le_refl _)).mono ?_); rintro e w5 ⟨⟨v5, rfl⟩, at5, o5⟩; have bw5 := o5.below bw4 (Nat.le_refl _) bw4.size)
        | (go_at_call 115; (with_reducible refine (G4.out w.heap.size w5 at5).mono ?_); rintro e w6 ⟨v6, rfl, o6, b6⟩))
      go_ret
      exact ⟨_, rfl, o6.wide bw5.size (Nat.le_refl _) (Nat.le_refl _), bw5.trans (b6.mono bw5.size)⟩
    · rcases Nat.eq_zero_or_pos l.length with hl0 | hl0
      · have hn0 : n = 0 := by omega
        subst hn0
        go_enter Tryd.func85, Tryd.ntmps85
        go_wp2_with (first
          | ((with_reducible refine at_slot 8 ?_); refine wpList_build_as (wd S0.list) rfl _ _ rfl (by kernel_rfl) ?_)
          | ((with_reducible refine at_slot 3 ?_); refine wpList_alloc_zero rfl _ rfl (wd Z8) (by kernel_rfl) ?_; intro w1 at1 b1 z1)
          | ((with_reducible refine at_none ?_); refine wpList_store_all rfl _ _ _ rfl w.heap.size (wd S0.list) rfl rfl _ _ at1 (by kernel_rfl) (by kernel_rfl) (wd_one _) ?_; intro w2 at2 b2 z2 n2; have bw2 := b1.trans (b2 _ (Nat.le_refl _)))
          | (go_at_call 113; (with_reducible refine (G1.out _ w.heap.size w2 (H1.out _ (by omega)) bw2 (Nat.le_refl _) at2).mono ?_); rintro e w3 ⟨⟨v3, rfl⟩, at3, o3⟩; have bw3 := o3.below bw2 (Nat.le_refl _) bw2.size; have t3 := HT.out.step bw3)
          | (go_at_call 114; (with_reducible refine (G2.out _ _ w3 (by omega) (Rd.below (H2.out _ _ _ (by omega) (.inl (by omega)) (by omega)) bw3)).mono ?_); rintro e w4 ⟨v4, rfl, o4, b4⟩; have at4 := at3.step b4; have bw4 := bw3.trans (b4.mono bw3.size))
          | (go_at_call 113; (with_reducible refine (G3.out _ w.heap.size w3.heap.size w4 o4 at3.lt at4 (t3.step b4) (Nat.le_refl _)).mono ?_); rintro e w5 ⟨⟨v5, rfl⟩, at5, o5⟩; have bw5 := o5.below bw4 (Nat.le_refl _) bw4.size)
          | (go_at_call 115; (with_reducible refine (G4.out w.heap.size w5 at5).mono ?_); rintro e w6 ⟨v6, rfl, o6, b6⟩))
        go_ret
        exact ⟨_, rfl, o6.wide bw5.size (Nat.le_refl _) (Nat.le_refl _), bw5.trans (b6.mono bw5.size)⟩
      · obtain ⟨b, off, ha⟩ := Z1.out hl0 a rfl
        subst ha
        go_enter Tryd.func85, Tryd.ntmps85
        go_wp2_with (first
          | ((with_reducible refine at_slot 8 ?_); refine wpList_build_as (wd S0.list) rfl _ _ rfl (by kernel_rfl) ?_)
          | ((with_reducible refine at_slot 3 ?_); refine wpList_alloc_zero rfl _ rfl (wd Z8) (by kernel_rfl) ?_; intro w1 at1 b1 z1)
          | ((with_reducible refine at_none ?_); refine wpList_store_all rfl _ _ _ rfl w.heap.size (wd S0.list) rfl rfl _ _ at1 (by kernel_rfl) (by kernel_rfl) (wd_one _) ?_; intro w2 at2 b2 z2 n2; have bw2 := b1.trans (b2 _ (Nat.le_refl _)))
          | (go_at_call 113; (with_reducible refine (G1.out _ w.heap.size w2 (H1.out _ rfl) bw2 (Nat.le_refl _) at2).mono ?_); rintro e w3 ⟨⟨v3, rfl⟩, at3, o3⟩; have bw3 := o3.below bw2 (Nat.le_refl _) bw2.size; have t3 := HT.out.step bw3)
          | (go_at_call 114; (with_reducible refine (G2.out _ _ w3 (by omega) (Rd.below (H2.out _ _ _ (by omega) (.inr ⟨_, _, rfl, rfl⟩) (by omega)) bw3)).mono ?_); rintro e w4 ⟨v4, rfl, o4, b4⟩; have at4 := at3.step b4; have bw4 := bw3.trans (b4.mono bw3.size))
          | (go_at_call 113; (with_reducible refine (G3.out _ w.heap.size w3.heap.size w4 o4 at3.lt at4 (t3.step b4) (Nat.le_refl _)).mono ?_); rintro e w5 ⟨⟨v5, rfl⟩, at5, o5⟩; have bw5 := o5.below bw4 (Nat.le_refl _) bw4.size)
          | (go_at_call 115; (with_reducible refine (G4.out w.heap.size w5 at5).mono ?_); rintro e w6 ⟨v6, rfl, o6, b6⟩))
        go_ret
        exact ⟨_, rfl, o6.wide bw5.size (Nat.le_refl _) (Nat.le_refl _), bw5.trans (b6.mono bw5.size)⟩

set_option maxHeartbeats 400000 in
theorem implSha (l : List Int) (hB : Byt l) (v : Value) (w : World) (hv : Rd w v (bs l)) (hT : Tab w) :
    Calls Tryd.prog 85 #[v] w fun e w' => ∃ v', e = .returned v' ∧ Own 5 w.heap.size w'.heap.size w' v' (bs (sha256 l)) ∧ Below w.heap.size w w' := by
  by_cases h : 100000 < l.length
  · rw [sha256, if_pos h]
    obtain ⟨A, c, hV, hc1, hc2, _⟩ := id hv
    rw [bs_length] at *
    unfold maxLen at hc2
    subst hV
    clear hv hT
    go_enter Tryd.func85, Tryd.ntmps85
    go_wp2
    go_ret
    exact ⟨_, rfl, Own.of (World.ownsRow_nil _ _ _ _) rfl, Below.refl _ _⟩
  · rw [sha256, if_neg h]
    exact implShaIn l hB v w hv (by omega) hT

end Go.Proofs.YtigklnokgmcifaaDoor
