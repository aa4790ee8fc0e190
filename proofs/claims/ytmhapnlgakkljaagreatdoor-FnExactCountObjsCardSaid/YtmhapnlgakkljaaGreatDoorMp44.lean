/-
  Parts of the proof: IsRootI.
-/
import Derived.Test.YtmhapnlgakkljaaGreatDoorMp43
import Derived.Test.YtmhapnlgakkljaaGreatDoorMp12
import Derived.Laws.BytesArg
import Derived.IntWalk
import Derived.Deep.QuietTactic
import Derived.BigQuiet
import Derived.Deep.Cut
import Derived.Deep.DeepCutAuto
import Derived.Deep.CutBlock
import Derived.Deep.RegionWith

/-
  StoreOk and IsRoot: the program.
-/
namespace Go.Proofs.YtmhapnlgakkljaaGreatDoor
open Go.RowKit
set_option linter.unusedVariables false
set_option linter.unusedSimpArgs false


set_option maxRecDepth 20000 in
set_option maxHeartbeats 1600000 in
theorem implStoreOk (s : DStore) (hok : oks s.cells) (hbk : bulks s.cells ≤ 1048576) (us : List Value) (w : World) (hs : Ins w s.cells us) (hTb : Tab w) :
    Calls Tryz.prog 15 #[.agg us.toArray] w fun e w' => e = .returned (.bool (storeOk s)) ∧ Below w.heap.size w w' := by
  have hsx := hs
  obtain ⟨A0, c0, A1, c1, A2, c2, rfl, h0, h1, h2⟩ := DStore.view hs
  obtain ⟨wa, hwa⟩ : ∃ wa, w.alloc (.cells #[.slice A0 s.objs.length c0, .slice A1 s.roots.length c1, .slice A2 s.reals.length c2] 32) = wa := ⟨_, rfl⟩
  have ba : Below w.heap.size w wa := by rw [← hwa]; exact (Below.refl _ _).alloc (Nat.le_refl _) _
  have bx : Box wa w.heap.size 32 [.slice A0 s.objs.length c0, .slice A1 s.roots.length c1, .slice A2 s.reals.length c2] := by rw [← hwa]; exact Box.new w _ _
  have hz : w.heap.size < wa.heap.size := bx.lt
  have x0 := bx.cell (j := 0) rfl
  have x1 := bx.cell (j := 1) rfl
  have x2 := bx.cell (j := 2) rfl
  have HBA := hide ba
  have HOP := hide (implOpen s hok hbk _ wa (hsx.step ba) (hTb.step ba))
  clear bx ba hok hbk hs hsx hTb h0 h1 h2
  go_enter Tryz.func15, Tryz.ntmps15
  go_wp2_with fail
  refine HOP.out.mono ?_
  rintro e w1 ⟨mr, mo, Av, nv, cv, rfl, b1, -, -⟩
  have HB1 := hide (HBA.out.trans (b1.mono HBA.out.size))
  clear b1 x0 x1 x2 HOP
  obtain ⟨w2, hw2⟩ : ∃ W, w1.alloc (.cells #[.map mr, .map mo, .slice Av nv cv] 78) = W := ⟨_, rfl⟩
  have b2 : Below w1.heap.size w1 w2 := by rw [← hw2]; exact (Below.refl _ _).alloc (Nat.le_refl _) _
  have HB2 := hide (HB1.out.trans (b2.mono HB1.out.size))
  clear b2
  go_wp2_with fail
  go_ret
  exact ⟨rfl, HB2.out⟩

def isRootB (s : DStore) (n : List Int) : Bool := storeOk s && decide (n ∈ s.roots)

set_option maxRecDepth 20000 in
set_option maxHeartbeats 1600000 in
theorem implIsRootR (q : List Int → Bool) (mv : Value) (n : List Int) (hB : Byt n) (hl : n.length ≤ 1099511627776) (v : Value) (w : World) (hm : MapO w mv (setF q)) (hv : In1 w (raw n) v) :
    Calls Tryz.prog 58 #[.agg #[mv], v] w fun e w' => e = .returned (.bool (q n)) ∧ Below w.heap.size w w' := by
  have hmv : ∃ m, mv = .map m := by
    rcases hm with ⟨rfl, _⟩ | ⟨b, _, _, rfl, _⟩
    · exact ⟨_, rfl⟩
    · exact ⟨_, rfl⟩
  obtain ⟨m, rfl⟩ := hmv
  obtain ⟨wa, hwa⟩ : ∃ wa, w.alloc (.cells #[.map m] 74) = wa := ⟨_, rfl⟩
  have ba : Below w.heap.size w wa := by rw [← hwa]; exact (Below.refl _ _).alloc (Nat.le_refl _) _
  have bx : Box wa w.heap.size 74 [.map m] := by rw [← hwa]; exact Box.new w _ _
  have x0 := bx.cell (j := 0) rfl
  have hc := hasB (.map m) (setF q) n hB v wa (hm.step ba) (hv.step ba).rd hl
  rw [setF_isSome] at hc
  have HC := hide hc
  have HBA := hide ba
  clear hm hv bx ba hc
  go_enter Tryz.func58, Tryz.ntmps58
  go_wp2_with fail
  refine HC.out.mono ?_
  rintro e w1 ⟨rfl, rfl⟩
  go_wp2_with fail
  go_ret
  exact ⟨rfl, HBA.out⟩

theorem isRoot_no {s : DStore} {n : List Int} (h : storeOk s = false) : isRootB s n = false := by rw [isRootB, h]; rfl
theorem isRoot_yes {s : DStore} {n : List Int} (h : storeOk s = true) : isRootB s n = decide (n ∈ s.roots) := by rw [isRootB, h]; rfl

set_option maxRecDepth 20000 in
set_option maxHeartbeats 1600000 in
theorem implIsRoot (s : DStore) (n : List Int) (hn : Byt n) (hnl : n.length ≤ 1048576) (hok : oks s.cells) (hbk : bulks s.cells ≤ 1048576) (us : List Value) (vn : Value) (w : World) (hs : Ins w s.cells us) (hv : In1 w (raw n) vn) (hTb : Tab w) :
    Calls Tryz.prog 19 #[.agg us.toArray, vn] w fun e w' => e = .returned (.bool (isRootB s n)) ∧ Below w.heap.size w w' := by
  have hsx := hs
  obtain ⟨A0, c0, A1, c1, A2, c2, rfl, h0, h1, h2⟩ := DStore.view hs
  obtain ⟨wa, hwa⟩ : ∃ wa, w.alloc (.cells #[.slice A0 s.objs.length c0, .slice A1 s.roots.length c1, .slice A2 s.reals.length c2] 32) = wa := ⟨_, rfl⟩
  have ba : Below w.heap.size w wa := by rw [← hwa]; exact (Below.refl _ _).alloc (Nat.le_refl _) _
  have bx : Box wa w.heap.size 32 [.slice A0 s.objs.length c0, .slice A1 s.roots.length c1, .slice A2 s.reals.length c2] := by rw [← hwa]; exact Box.new w _ _
  have hz : w.heap.size < wa.heap.size := bx.lt
  have x0 := bx.cell (j := 0) rfl
  have x1 := bx.cell (j := 1) rfl
  have x2 := bx.cell (j := 2) rfl
  have HBA := hide ba
  have HV := hide hv
  have HOP := hide (implOpen s hok hbk _ wa (hsx.step ba) (hTb.step ba))
  clear bx ba hok hbk hs hsx hTb h0 h1 h2 hv
  go_enter Tryz.func19, Tryz.ntmps19
  go_wp2_with fail
  refine HOP.out.mono ?_
  rintro e w1 ⟨mr, mo, Av, nv, cv, rfl, b1, hst, hno⟩
  have HB1 := hide (HBA.out.trans (b1.mono HBA.out.size))
  obtain ⟨w2, hw2⟩ : ∃ W, w1.alloc (.cells #[.map mr, .map mo, .slice Av nv cv] 78) = W := ⟨_, rfl⟩
  have b2 : Below w1.heap.size w1 w2 := by rw [← hw2]; exact (Below.refl _ _).alloc (Nat.le_refl _) _
  have bx2 : Box w2 w1.heap.size 78 [.map mr, .map mo, .slice Av nv cv] := by rw [← hw2]; exact Box.new w1 _ _
  have u0_ := bx2.cell (j := 0) rfl
  have HB2 := hide (HB1.out.trans (b2.mono HB1.out.size))
  have hcall : Calls Tryz.prog 58 #[.agg #[.map mr], vn] w2 fun e w' => e = .returned (.bool (isRootB s n)) ∧ Below w2.heap.size w2 w' := by
    cases hb : storeOk s with
    | false =>
      obtain ⟨rfl, -, -, -, -⟩ := hno hb
      rw [isRoot_no hb]
      exact implIsRootR (fun _ => false) (.map none) n hn (by omega) vn w2 (Or.inl ⟨rfl, fun _ => rfl⟩) (HV.out.step HB2.out)
    | true =>
      obtain ⟨br, nr, cr, bo, no, q, f, rfl, rfl, -, -, -, g1, -, g2, -⟩ := (hst hb).ok
      have hq : q n = decide (n ∈ s.roots) := by
        by_cases h : n ∈ s.roots
        · rw [decide_eq_true h]; exact (g2 n).2 h
        · rw [decide_eq_false h, Bool.eq_false_iff]; exact fun h2 => h ((g2 n).1 h2)
      rw [isRoot_yes hb, ← hq]
      exact implIsRootR q (.map (some br)) n hn (by omega) vn w2 (g1.step b2).o (HV.out.step HB2.out)
  have HC := hide hcall
  clear b1 b2 bx2 x0 x1 x2 HOP hst hno hcall
  go_wp2_with fail
  refine HC.out.mono ?_
  rintro e w3 ⟨rfl, b3⟩
  have HB3 := hide (HB2.out.trans (b3.mono HB2.out.size))
  clear b3
  go_wp2_with fail
  go_ret
  exact ⟨rfl, HB3.out⟩

end Go.Proofs.YtmhapnlgakkljaaGreatDoor
