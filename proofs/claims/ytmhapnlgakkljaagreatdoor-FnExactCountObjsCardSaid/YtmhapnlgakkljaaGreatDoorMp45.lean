/-
  Parts of the proof: CountObjsS, CountObjsI, CountObjsL.
-/
import Derived.Test.YtmhapnlgakkljaaGreatDoorMp27
import Derived.Test.YtmhapnlgakkljaaGreatDoorMp37
import Derived.Laws.BytesArg
import Derived.IntWalk
import Derived.Deep.QuietTactic
import Derived.BigQuiet
import Derived.Deep.Cut
import Derived.Deep.DeepCutAuto
import Derived.Deep.CutBlock
import Derived.Deep.RegionWith
import Derived.Test.YtmhapnlgakkljaaGreatDoorMp44
import Derived.Test.YtmhapnlgakkljaaGreatDoorMp14

/-
  CountObjs: the model.
-/
namespace Go.Proofs.YtmhapnlgakkljaaGreatDoor
open Go.RowKit
set_option linter.unusedVariables false
set_option linter.unusedSimpArgs false


set_option maxRecDepth 20000 in
set_option maxHeartbeats 3200000 in
theorem specCountObjs (s : DStore) (c : Int) (hok : oks s.cells) (hbk : bulks s.cells ≤ 1048576) (us : List Value) (w : World) (hs : Ins w s.cells us) :
    Calls Tryz.prog 21 #[.agg us.toArray, .int .i64 c] w fun e w' => e = .returned (.int .i64 (countObjs s c)) ∧ Below w.heap.size w w' := by
  have hsx := hs
  have hbl := bulk_Store s
  obtain ⟨A0, c0, A1, c1, A2, c2, rfl, h0, h1, h2⟩ := DStore.view hs
  obtain ⟨wa, hwa⟩ : ∃ wa, w.alloc (.cells #[.slice A0 s.objs.length c0, .slice A1 s.roots.length c1, .slice A2 s.reals.length c2] 32) = wa := ⟨_, rfl⟩
  have ba : Below w.heap.size w wa := by rw [← hwa]; exact (Below.refl _ _).alloc (Nat.le_refl _) _
  have bx : Box wa w.heap.size 32 [.slice A0 s.objs.length c0, .slice A1 s.roots.length c1, .slice A2 s.reals.length c2] := by rw [← hwa]; exact Box.new w _ _
  have hz : w.heap.size < wa.heap.size := bx.lt
  have x0 := bx.cell (j := 0) rfl
  have x1 := bx.cell (j := 1) rfl
  have x2 := bx.cell (j := 2) rfl
  have HX := hide (fun W (hb : Below wa.heap.size wa W) => (bx.step hb))
  have HBA := hide ba
  have HOK := hide (specStoreOk s hok hbk _ wa (hsx.step ba))
  have HG3 := hide (h0.step ba)
  have HO := hide (show countObjs s c = if storeOk s then (objCnt s.objs c : Int) else -1 from rfl)
  obtain ⟨T, hT⟩ : ∃ T, storeOk s = T := ⟨_, rfl⟩
  rw [hT] at HOK HO
  have hb3 : s.objs.length ≤ 1048576 := by omega
  clear bx ba hok hbk hs hsx h0 h1 h2 hT hbl
  go_enter Tryz.func21, Tryz.ntmps21
  go_wp2_with fail
  refine HOK.out.mono ?_
  rintro e w1 ⟨rfl, b1⟩
  have HB1 := hide b1
  clear x0 x1 x2 b1
  cases T with
  | false =>
    have HR := hide (show countObjs s c = -1 by rw [HO.out]; rfl)
    go_wp2_with fail
    go_ret
    exact ⟨ret_i64 HR.out.symm, HBA.out.trans (HB1.out.mono HBA.out.size)⟩
  | true =>
    have HR := hide (show countObjs s c = (objCnt s.objs c : Int) by rw [HO.out]; rfl)
    go_wp2_with fail
    go_loopw [5, 6] (fun t i wr => ∃ k : Nat, k ≤ s.objs.length ∧ i = .int .i64 k ∧ t = .int .i64 (objCnt (s.objs.take k) c : Int) ∧ Hid (Below wa.heap.size wa wr)) (fun _ i _ => s.objs.length - (intOf i).toNat)
    case atStart => exact ⟨0, Nat.zero_le _, rfl, rfl, HB1⟩
    case round =>
      clear HB1
      obtain ⟨k, hk, rfl, rfl, HB⟩ := hrel
      have hle := objCnt_le (s.objs.take k) c
      rw [List.length_take] at hle
      have u_ := (HX.out wr HB.out).cell (j := 0) rfl
      by_cases hk2 : k < s.objs.length
      · have k1 : (k : Int) < ((s.objs.length : Nat) : Int) := by omega
        have k0 : (0 : Int) ≤ (k : Int) := by omega
        have k2_ : (k : Int).toNat = k := by omega
        have hnx := objCnt_next (c := c) hk2
        obtain ⟨b, of, cq, B0, d0, B3, d3, B4, d4, B5, d5, B6, d6, B7, d7, B8, d8, -, e, lb_, -, q1, -, -, -, -, -, -, -, -, -, -, -, -, -, -⟩ := DObj.elem HG3.out HB.out hk2
        obtain rfl := e rfl
        obtain ⟨C, hC⟩ : ∃ C, objCnt (s.objs.take k) c = C := ⟨_, rfl⟩
        rw [hC] at hle hnx ⊢
        obtain ⟨T, hT⟩ : ∃ T, ((s.objs[k]).kind == c) = T := ⟨_, rfl⟩
        rw [hT] at hnx
        obtain ⟨oc, hoc⟩ : ∃ x, (s.objs[k]).kind = x := ⟨_, rfl⟩
        rw [hoc] at hT q1
        have HNX := hide hnx
        clear hnx hC hoc
        cases T with
        | true =>
          have HE := hide (show objCnt (s.objs.take (k + 1)) c = C + 1 from HNX.out)
          go_wp2_with fail
          go_roundw
          case rel => exact ⟨k + 1, by omega, by go_num, by rw [HE.out]; go_num, HB⟩
          case measure => simp [intOf]; omega
        | false =>
          have HE := hide (show objCnt (s.objs.take (k + 1)) c = C from HNX.out)
          go_wp2_with fail
          go_roundw
          case rel => exact ⟨k + 1, by omega, by go_num, by rw [HE.out], HB⟩
          case measure => simp [intOf]; omega
      · have hke : k = s.objs.length := by omega
        have ht : s.objs.take k = s.objs := List.take_of_length_le (by omega)
        rw [ht] at hle ⊢
        have kk : ¬ (k : Int) < ((s.objs.length : Nat) : Int) := by omega
        clear hke ht
        go_wp2
        go_ret
        exact ⟨ret_i64 HR.out.symm, HBA.out.trans (HB.out.mono HBA.out.size)⟩

end Go.Proofs.YtmhapnlgakkljaaGreatDoor


/-
  CountObjs: the program.
-/
namespace Go.Proofs.YtmhapnlgakkljaaGreatDoor
open Go.RowKit
set_option linter.unusedVariables false
set_option linter.unusedSimpArgs false


set_option maxHeartbeats 800000 in
theorem cntO (oc k2 c : Int) (A0 : Option Addr) (n0 c0 : Nat) (A3 : Option Addr) (n3 c3 : Nat) (A4 : Option Addr) (n4 c4 : Nat) (A5 : Option Addr) (n5 c5 : Nat) (A6 : Option Addr) (n6 c6 : Nat) (A7 : Option Addr) (n7 c7 : Nat) (A8 : Option Addr) (n8 c8 : Nat) (g : Nat) (w : World) (hg : w.cell? ⟨g, 0, none⟩ = some (.int .i64 c)) (hlt : g < w.heap.size) :
    Calls Tryz.prog 60 #[.agg #[.slice A0 n0 c0, .int .i64 oc, .int .i64 k2, .slice A3 n3 c3, .slice A4 n4 c4, .slice A5 n5 c5, .slice A6 n6 c6, .slice A7 n7 c7, .slice A8 n8 c8], .pointer (some ⟨g, 0, none⟩)] w fun e w' => e = .returned (.bool (oc == c)) ∧ Below w.heap.size w w' := by
  obtain ⟨wa, hwa⟩ : ∃ W, w.alloc (.cells #[.slice A0 n0 c0, .int .i64 oc, .int .i64 k2, .slice A3 n3 c3, .slice A4 n4 c4, .slice A5 n5 c5, .slice A6 n6 c6, .slice A7 n7 c7, .slice A8 n8 c8] 54) = W := ⟨_, rfl⟩
  have hb : Below w.heap.size w wa := by rw [← hwa]; exact (Below.refl _ _).alloc (Nat.le_refl _) _
  have hbx : Box wa w.heap.size 54 [.slice A0 n0 c0, .int .i64 oc, .int .i64 k2, .slice A3 n3 c3, .slice A4 n4 c4, .slice A5 n5 c5, .slice A6 n6 c6, .slice A7 n7 c7, .slice A8 n8 c8] := by rw [← hwa]; exact Box.new w _ _
  have x1 := hbx.cell (j := 1) rfl
  have x9 := (hb.cell (p := ⟨g, 0, none⟩) hlt).trans hg
  have HB := hide hb
  clear hb hbx hg
  go_enter Tryz.func60, Tryz.ntmps60
  go_wp2
  go_ret
  exact ⟨rfl, HB.out⟩

set_option maxRecDepth 20000 in
set_option maxHeartbeats 3200000 in
theorem countOfObj (l : List DObj) (c : Int) (A : Option Addr) (n cc : Nat) (hn : l.length = n) (hn2 : n ≤ 1048576) (g : Nat) (w : World) (hs : In1 w (seqOf 9 DObj.cells l) (.slice A n cc)) (hg : w.cell? ⟨g, 0, none⟩ = some (.int .i64 c)) (hlt : g < w.heap.size) :
    Calls Tryz.prog 59 #[.slice A n cc, .func (.func 60) #[] #[.pointer (some ⟨g, 0, none⟩)]] w fun e w' => e = .returned (.int .i64 (objCnt l c : Int)) ∧ Below w.heap.size w w' := by
  have HN := hide hn
  have HS := hide hs
  have HG := hide hg
  clear hn hs hg
  go_enter Tryz.func59, Tryz.ntmps59
  go_wp2
  go_loopw [5, 10] (fun s i wr => ∃ k : Nat, k ≤ n ∧ i = .int .i64 k ∧ s = .int .i64 (objCnt (l.take k) c : Int) ∧ Hid (Below w.heap.size w wr)) (fun _ i _ => n - (intOf i).toNat)
  case atStart => exact ⟨0, Nat.zero_le _, rfl, rfl, hide (Below.refl _ _)⟩
  case round =>
    obtain ⟨k, hk, rfl, rfl, HB⟩ := hrel
    have hle := objCnt_le (l.take k) c
    rw [List.length_take] at hle
    by_cases hlt2 : k < n
    · have hk2 : k < l.length := by rw [HN.out]; exact hlt2
      have k1 : (k : Int) < (n : Int) := by omega
      have hnx := objCnt_next (c := c) hk2
      obtain ⟨b, of, cq, B0, d0, B3, d3, B4, d4, B5, d5, B6, d6, B7, d7, B8, d8, -, e, lb_, q0, q1, q2, q3, q4, q5, q6, q7, q8, -, -, -, -, -, -, -⟩ := DObj.elem HS.out HB.out hk2
      obtain rfl := e rfl
      obtain ⟨wi, hwi⟩ : ∃ W, wr.alloc (.cells #[.slice B0 (l[k]).name.length d0, .int .i64 (l[k]).kind, .int .i64 (l[k]).tree.kind, .slice B3 (l[k]).tree.data.length d3, .slice B4 (l[k]).tree.names.length d4, .slice B5 (l[k]).tree.kids.length d5, .slice B6 (l[k]).refs.length d6, .slice B7 (l[k]).frm.length d7, .slice B8 (l[k]).out.length d8] 54) = W := ⟨_, rfl⟩
      have hbw : Below wr.heap.size wr wi := by rw [← hwi]; exact (Below.refl _ _).alloc (Nat.le_refl _) _
      have hbx : Box wi wr.heap.size 54 [.slice B0 (l[k]).name.length d0, .int .i64 (l[k]).kind, .int .i64 (l[k]).tree.kind, .slice B3 (l[k]).tree.data.length d3, .slice B4 (l[k]).tree.names.length d4, .slice B5 (l[k]).tree.kids.length d5, .slice B6 (l[k]).refs.length d6, .slice B7 (l[k]).frm.length d7, .slice B8 (l[k]).out.length d8] := by rw [← hwi]; exact Box.new wr _ _
      have HBW := hide (HB.out.trans (hbw.mono HB.out.size))
      have p0 := hbx.cell (j := 0) rfl
      have p1 := hbx.cell (j := 1) rfl
      have p2 := hbx.cell (j := 2) rfl
      have p3 := hbx.cell (j := 3) rfl
      have p4 := hbx.cell (j := 4) rfl
      have p5 := hbx.cell (j := 5) rfl
      have p6 := hbx.cell (j := 6) rfl
      have p7 := hbx.cell (j := 7) rfl
      have p8 := hbx.cell (j := 8) rfl
      have HF := hide (cntO (l[k]).kind (l[k]).tree.kind c B0 (l[k]).name.length d0 B3 (l[k]).tree.data.length d3 B4 (l[k]).tree.names.length d4 B5 (l[k]).tree.kids.length d5 B6 (l[k]).refs.length d6 B7 (l[k]).frm.length d7 B8 (l[k]).out.length d8 g wi ((HBW.out.cell (p := ⟨g, 0, none⟩) hlt).trans HG.out) (Nat.lt_of_lt_of_le hlt HBW.out.size))
      obtain ⟨C, hC⟩ : ∃ C, objCnt (l.take k) c = C := ⟨_, rfl⟩
      rw [hC] at hle hnx ⊢
      generalize hT : ((l[k]).kind == c) = T at *
      have HNX := hide hnx
      clear hbw hbx hnx hC hT
      go_wp2_with fail
      refine HF.out.mono ?_
      rintro e w7 ⟨rfl, b7⟩
      have HB7 := hide (HBW.out.trans (b7.mono HBW.out.size))
      clear b7 p0 p1 p2 p3 p4 p5 p6 p7 p8 q0 q1 q2 q3 q4 q5 q6 q7 q8
      cases T with
      | true =>
        have HE := hide (show objCnt (l.take (k + 1)) c = C + 1 from HNX.out)
        go_wp2_with fail
        go_roundw
        case rel => exact ⟨k + 1, by omega, by go_num, by rw [HE.out]; go_num, HB7⟩
        case measure => simp [intOf]; omega
      | false =>
        have HE := hide (show objCnt (l.take (k + 1)) c = C from HNX.out)
        go_wp2_with fail
        go_roundw
        case rel => exact ⟨k + 1, by omega, by go_num, by rw [HE.out], HB7⟩
        case measure => simp [intOf]; omega
    · obtain rfl : k = n := by omega
      have ht : l.take k = l := List.take_of_length_le (by rw [HN.out]; omega)
      rw [ht] at hle ⊢
      go_wp2
      go_ret
      exact ⟨rfl, HB.out⟩

set_option maxRecDepth 20000 in
set_option maxHeartbeats 3200000 in
theorem implCountObjs (s : DStore) (c : Int) (hok : oks s.cells) (hbk : bulks s.cells ≤ 1048576) (us : List Value) (w : World) (hs : Ins w s.cells us) (hTb : Tab w) :
    Calls Tryz.prog 22 #[.agg us.toArray, .int .i64 c] w fun e w' => e = .returned (.int .i64 (countObjs s c)) ∧ Below w.heap.size w w' := by
  have hsx := hs
  have hbl := bulk_Store s
  obtain ⟨A0, c0, A1, c1, A2, c2, rfl, h0, h1, h2⟩ := DStore.view hs
  obtain ⟨wz, hwz⟩ : ∃ wz, w.alloc (.cells #[.slice A0 s.objs.length c0, .slice A1 s.roots.length c1, .slice A2 s.reals.length c2] 32) = wz := ⟨_, rfl⟩
  have ba : Below w.heap.size w wz := by rw [← hwz]; exact (Below.refl _ _).alloc (Nat.le_refl _) _
  have bx : Box wz w.heap.size 32 [.slice A0 s.objs.length c0, .slice A1 s.roots.length c1, .slice A2 s.reals.length c2] := by rw [← hwz]; exact Box.new w _ _
  have hz : w.heap.size < wz.heap.size := bx.lt
  obtain ⟨wa, hwa⟩ : ∃ W, wz.alloc (.cells #[.int .i64 c] 3) = W := ⟨_, rfl⟩
  have bza : Below wz.heap.size wz wa := by rw [← hwa]; exact (Below.refl _ _).alloc (Nat.le_refl _) _
  have bxc : Box wa wz.heap.size 3 [.int .i64 c] := by rw [← hwa]; exact Box.new wz _ _
  have baw : Below w.heap.size w wa := ba.trans (bza.mono ba.size)
  have bxx := bx.step bza
  have x0 := bxx.cell (j := 0) rfl
  have x1 := bxx.cell (j := 1) rfl
  have x2 := bxx.cell (j := 2) rfl
  have HX := hide (fun W (hb : Below wa.heap.size wa W) => (bxx.step hb))
  have HXC := hide (fun W (hb : Below wa.heap.size wa W) => (bxc.step hb))
  have HBA := hide baw
  have HOK := hide (implStoreOk s hok hbk _ wa (hsx.step baw) (hTb.step baw))
  have HG3 := hide (h0.step baw)
  have HO := hide (show countObjs s c = if storeOk s then (objCnt s.objs c : Int) else -1 from rfl)
  obtain ⟨T, hT⟩ : ∃ T, storeOk s = T := ⟨_, rfl⟩
  rw [hT] at HOK HO
  have hb3 : s.objs.length ≤ 1048576 := by omega
  have hzl := bxc.lt
  clear bx ba bza baw bxx bxc hok hbk hs hsx h0 h1 h2 hT hbl hTb
  go_enter Tryz.func22, Tryz.ntmps22
  go_wp2_with fail
  refine HOK.out.mono ?_
  rintro e w1 ⟨rfl, b1⟩
  have HB1 := hide b1
  have y3 := (HX.out w1 b1).cell (j := 0) rfl
  have hcell := (HXC.out w1 b1).cell (j := 0) rfl
  have HC := hide (countOfObj s.objs c A0 s.objs.length c0 rfl hb3 wz.heap.size w1 (HG3.out.step b1) hcell (Nat.lt_of_lt_of_le hzl b1.size))
  clear x0 x1 x2 b1 hcell
  cases T with
  | false =>
    have HR := hide (show countObjs s c = -1 by rw [HO.out]; rfl)
    go_wp2_with fail
    go_ret
    exact ⟨ret_i64 HR.out.symm, HBA.out.trans (HB1.out.mono HBA.out.size)⟩
  | true =>
    have HR := hide (show countObjs s c = (objCnt s.objs c : Int) by rw [HO.out]; rfl)
    go_wp2_with fail
    refine HC.out.mono ?_
    rintro e w2 ⟨rfl, b2⟩
    have HB2 := hide ((HBA.out.trans (HB1.out.mono HBA.out.size)).trans (b2.mono (HBA.out.trans (HB1.out.mono HBA.out.size)).size))
    clear b2
    go_wp2_with fail
    go_ret
    exact ⟨ret_i64 HR.out.symm, HB2.out⟩

end Go.Proofs.YtmhapnlgakkljaaGreatDoor


/-
  The law CountObjs.
-/
namespace Go.Proofs.YtmhapnlgakkljaaGreatDoor
open Go.RowKit
set_option linter.unusedVariables false

theorem lawCountObjs (x0 : DStore) (o0 : oks x0.cells) (a1 : Int) (w : World) (u0 : List Value) (E0 : List Nat) (h0 : Lies w x0.cells u0 E0) (ha1 : -9223372036854775808 ≤ a1 ∧ a1 ≤ 9223372036854775807) (hT : Tab w) :
    Calls Tryz.prog 5 #[.agg u0.toArray, .int .i64 a1] w fun e w' => e = .returned (.bool true) ∧ Below w.heap.size w w' := by
  refine walkCountObjs x0 a1 (countObjs x0 a1) ha1 ?_ ?_ w u0 E0 h0 hT
  · intro hb u E W h
    exact specCountObjs x0 a1 o0 hb u W ⟨E, h⟩
  · intro hb u E W h ht
    exact implCountObjs x0 a1 o0 hb u W ⟨E, h⟩ ht
end Go.Proofs.YtmhapnlgakkljaaGreatDoor
