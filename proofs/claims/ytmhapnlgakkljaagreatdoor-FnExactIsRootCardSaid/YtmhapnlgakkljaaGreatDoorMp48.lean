/-
  Parts of the proof: IsRootS, IsRootL.
-/
import Derived.Test.YtmhapnlgakkljaaGreatDoorMp37
import Derived.Laws.BytesArg
import Derived.IntWalk
import Derived.Deep.QuietTactic
import Derived.BigQuiet
import Derived.Deep.Cut
import Derived.Deep.DeepCutAuto
import Derived.Deep.CutBlock
import Derived.Deep.RegionWith
import Derived.Test.YtmhapnlgakkljaaGreatDoorMp47
import Derived.Test.YtmhapnlgakkljaaGreatDoorMp44
import Derived.Test.YtmhapnlgakkljaaGreatDoorMp1

/-
  IsRoot: the model.
-/
namespace Go.Proofs.YtmhapnlgakkljaaGreatDoor
open Go.RowKit
set_option linter.unusedVariables false
set_option linter.unusedSimpArgs false

set_option maxRecDepth 20000 in
set_option maxHeartbeats 3200000 in
theorem specIsRoot (s : DStore) (n : List Int) (hn : Byt n) (hok : oks s.cells) (hbk : bulks s.cells ≤ 1048576) (us : List Value) (vn : Value) (w : World) (hs : Ins w s.cells us) (hv : In1 w (raw n) vn) :
    Calls Tryz.prog 17 #[.agg us.toArray, vn] w fun e w' => e = .returned (.bool (storeOk s && decide (n ∈ s.roots))) ∧ Below w.heap.size w w' := by
  have hsx := hs
  have hbs := bulk_Store s
  obtain ⟨A0, c0, A1, c1, A2, c2, rfl, h0, h1, h2⟩ := DStore.view hs
  obtain ⟨wa, hwa⟩ : ∃ wa, w.alloc (.cells #[.slice A0 s.objs.length c0, .slice A1 s.roots.length c1, .slice A2 s.reals.length c2] 32) = wa := ⟨_, rfl⟩
  have ba : Below w.heap.size w wa := by rw [← hwa]; exact (Below.refl _ _).alloc (Nat.le_refl _) _
  have bx : Box wa w.heap.size 32 [.slice A0 s.objs.length c0, .slice A1 s.roots.length c1, .slice A2 s.reals.length c2] := by rw [← hwa]; exact Box.new w _ _
  have hz : w.heap.size < wa.heap.size := bx.lt
  have x0 := bx.cell (j := 0) rfl
  have x1 := bx.cell (j := 1) rfl
  have x2 := bx.cell (j := 2) rfl
  obtain ⟨ok1, ok2, ok3⟩ := (DStore.oks_iff s).1 hok
  have hlr : s.roots.length ≤ 1048576 := by omega
  have HX := hide (fun W (hb : Below wa.heap.size wa W) => (bx.step hb))
  have HBA := hide ba
  have HV := hide (hv.step ba)
  have HN1 := hide (h1.step ba).rdN
  have HOK := hide (specStoreOk s hok hbk _ wa (hsx.step ba))
  obtain ⟨T, hT⟩ : ∃ T, storeOk s = T := ⟨_, rfl⟩
  rw [hT] at HOK ⊢
  clear bx ba hok hbk hs hsx h0 h1 h2 hv hT hbs
  go_enter Tryz.func17, Tryz.ntmps17
  go_wp2_with fail
  refine HOK.out.mono ?_
  rintro e w1 ⟨rfl, b1⟩
  have HB1 := hide b1
  clear x0 x1 x2 b1
  cases T with
  | false =>
    go_wp2_with fail
    go_ret
    exact ⟨rfl, HBA.out.trans (HB1.out.mono HBA.out.size)⟩
  | true =>
    go_wp2_with fail
    go_loopw [5] (fun kv wr => ∃ q : Nat, q ≤ s.roots.length ∧ kv = .int .i64 q ∧ Hid (∀ m, m < q → s.roots.getD m [] ≠ n) ∧ Hid (Below wa.heap.size wa wr)) (fun kv _ => s.roots.length - (intOf kv).toNat)
    case atStart => exact ⟨0, Nat.zero_le _, rfl, hide (fun m hm => by omega), HB1⟩
    case round =>
      clear HB1
      obtain ⟨q, hq, rfl, HQQ, HB⟩ := hrel
      have bxr := HX.out wr HB.out
      have y1 := bxr.cell (j := 1) rfl
      clear bxr
      by_cases hlt3 : q < s.roots.length
      · have r1 : (q : Int) < ((s.roots.length : Nat) : Int) := by omega
        have t0 : (0 : Int) ≤ (q : Int) := by omega
        have t2 : (q : Int).toNat = q := by omega
        obtain ⟨b6, o6, x6, hA6, hb6, cx6, rx6⟩ := HN1.out.get hlt3
        subst hA6
        have cr := (HB.out.cell (p := ⟨b6, o6 + q, none⟩) hb6).trans cx6
        have hmr : s.roots.getD q [] ∈ s.roots := by simp [List.getD, List.getElem?_eq_getElem hlt3]
        have hBr := ok2 _ hmr
        have q1 : ∀ m, Rd (wr.drewN m) x6 (bs (s.roots.getD q [])) := fun m => rx6.below (below_drewN HB.out m)
        have q2 : ∀ m, Rd (wr.drewN m) vn (bs n) := fun m => (HV.out.step HB.out).rd
        have cw1 := fun m => conv_rd (P := Tryz.prog) Tryz.underlying36 Tryz.underlying5 Tryz.underlying9 (q1 m)
        have cw2 := fun m => conv_rd (P := Tryz.prog) Tryz.underlying36 Tryz.underlying5 Tryz.underlying9 (q2 m)
        have cv1 := cw1 0
        have cv2 := cw2 0
        have heq := str_eq hBr hn
        obtain ⟨rr, hrr⟩ : ∃ r, s.roots.getD q [] = r := ⟨_, rfl⟩
        rw [hrr] at cw1 cv1 heq hmr
        have HRR := hide hrr
        generalize strOfNums rr = s1 at *
        generalize strOfNums n = s2 at *
        clear q1 q2 hBr rx6 cx6 hrr
        by_cases hat : rr = n
        · rw [decide_eq_true hat] at heq
          have HF := hide (show decide (n ∈ s.roots) = true from decide_eq_true (hat ▸ hmr))
          clear hat hmr
          go_upto_region 6 with (fail)
          go_quiet (fail)
          go_wp2
          go_ret
          exact ⟨by rw [HF.out]; rfl, HBA.out.trans ((below_drewN HB.out _).mono HBA.out.size)⟩
        · rw [decide_eq_false hat] at heq
          have HAT := hide hat
          clear hat hmr
          go_upto_region 6 with (fail)
          go_quiet (fail)
          go_wp2
          go_roundw
          case rel => exact ⟨q + 1, by omega, by go_num, hide (fun m hm => by
            rcases Nat.lt_or_ge m q with h | h
            · exact HQQ.out m h
            · obtain rfl : m = q := by omega
              rw [HRR.out]
              exact HAT.out), hide (below_drewN HB.out _)⟩
          case measure => simp [intOf]; omega
      · obtain rfl : q = s.roots.length := by omega
        have hno : n ∉ s.roots := fun h => by
          obtain ⟨i, hi, e⟩ := List.mem_iff_getElem.1 h
          exact HQQ.out i hi (by rw [List.getD, List.getElem?_eq_getElem hi]; exact e)
        have HR := hide (decide_eq_false hno)
        clear hno
        go_wp2
        go_ret
        exact ⟨by rw [HR.out]; rfl, HBA.out.trans (HB.out.mono HBA.out.size)⟩

end Go.Proofs.YtmhapnlgakkljaaGreatDoor


/-
  The law IsRoot.
-/
namespace Go.Proofs.YtmhapnlgakkljaaGreatDoor
open Go.RowKit
set_option linter.unusedVariables false

theorem lawIsRoot (x0 : DStore) (o0 : oks x0.cells) (x1 : List Int) (o1 : (raw x1).ok) (w : World) (u0 : List Value) (E0 : List Nat) (h0 : Lies w x0.cells u0 E0) (u1 : Value) (E1 : List Nat) (h1 : Lie w (raw x1) u1 E1) (hT : Tab w) :
    Calls Tryz.prog 4 #[.agg u0.toArray, u1] w fun e w' => e = .returned (.bool true) ∧ Below w.heap.size w w' := by
  refine walkIsRoot x0 x1 (isRootB x0 x1) ?_ ?_ w u0 E0 h0 u1 E1 h1 hT
  · intro hb hb1 u E v G W h hv
    exact specIsRoot x0 x1 ((raw_ok x1).1 o1) o0 hb u v W ⟨E, h⟩ ⟨G, hv⟩
  · intro hb hb1 u E v G W h hv ht
    exact implIsRoot x0 x1 ((raw_ok x1).1 o1) (by rw [raw_bulk] at hb1; exact hb1) o0 hb u v W ⟨E, h⟩ ⟨G, hv⟩ ht
end Go.Proofs.YtmhapnlgakkljaaGreatDoor
