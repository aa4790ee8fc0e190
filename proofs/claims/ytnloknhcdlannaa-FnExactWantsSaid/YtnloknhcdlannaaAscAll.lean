
/-
  Merged: InCmpI, AscI, AscM, AscE.
-/
import Derived.Test.YtnloknhcdlannaaDrvOkP
import Derived.Test.YtnloknhcdlannaaInCmp
import Derived.Test.YtnloknhcdlannaaEntryQ
import Derived.Test.YtnloknhcdlannaaNameOkI
import Derived.Deep.RegionHeld3
import Derived.Deep.RegionWith
import Derived.Test.YtnloknhcdlannaaDElem
import Derived.Laws.BytesArg
import Derived.IntWalk
import Derived.Deep.QuietTactic
import Derived.BigQuiet
import Derived.Deep.Cut
import Derived.Deep.DeepCutAuto
import Derived.Deep.CutBlock
import Derived.Test.YtnloknhcdlannaaTree
import Derived.Test.YtnloknhcdlannaaLess
import Derived.Test.YtnloknhcdlannaaAscP

namespace Go.Proofs.Ytnloknhcdlannaa
open Go.RowKit
set_option linter.unusedVariables false
set_option linter.unusedSimpArgs false

theorem cmpB_zero : ∀ (a b : List UInt8), Lib.compareBytes a b = 0 ↔ a = b
  | [], [] => by simp [Lib.compareBytes]
  | [], _ :: _ => by simp [Lib.compareBytes]
  | _ :: _, [] => by simp [Lib.compareBytes]
  | x :: a, y :: b => by
    have ih := cmpB_zero a b
    unfold Lib.compareBytes
    by_cases h1 : x < y
    · have : x ≠ y := fun e => by subst e; exact UInt8.lt_irrefl _ h1
      simp [h1, this]
    · by_cases h2 : y < x
      · have : x ≠ y := fun e => by subst e; exact UInt8.lt_irrefl _ h2
        simp [h1, h2, this]
      · have h3 : x = y := UInt8.le_antisymm (UInt8.not_lt.1 h2) (UInt8.not_lt.1 h1)
        subst h3
        rw [if_neg h1, if_neg h1, ih]
        simp
theorem cmpI_zero {a b : List Int} (ha : Byt a) (hb : Byt b) : cmpI a b = 0 ↔ a = b := by
  unfold cmpI
  rw [cmpB_zero]
  constructor
  · intro h
    refine str_inj ha hb ?_
    rw [ByteArray.toList_eq, ByteArray.toList_eq]
    exact h
  · rintro rfl; rfl
theorem inLess_eq (a b : DIn) : inLess a b = if a.drv = b.drv then lessL a.out b.out else lessL a.drv b.drv := by
  unfold inLess realCmp asReal
  simp only
  split
  · split
    · rename_i h; rw [h]; rfl
    · rename_i h
      have h2 : lessL a.out b.out = false := by simpa using h
      rw [h2]
      split <;> rfl
  · split
    · rename_i h; rw [h]; rfl
    · rename_i h
      have h2 : lessL a.drv b.drv = false := by simpa using h
      rw [h2]
      rfl
/-- What compareIns answers. -/
def inCmpI (a b : DIn) : Int := if cmpI a.drv b.drv = 0 then cmpI a.out b.out else cmpI a.drv b.drv
theorem inCmpI_less {a b : DIn} (ha : oks a.cells) (hb : oks b.cells) : decide (0 ≤ inCmpI a b) = !inLess a b := by
  obtain ⟨a0, a1⟩ := (DIn.oks_iff a).1 ha
  obtain ⟨b0, b1⟩ := (DIn.oks_iff b).1 hb
  rw [inLess_eq, inCmpI]
  by_cases h : a.drv = b.drv
  · rw [if_pos h, if_pos ((cmpI_zero a0 b0).2 h)]
    exact cmpI_less a1 b1
  · rw [if_neg h, if_neg (fun e => h ((cmpI_zero a0 b0).1 e))]
    exact cmpI_less a0 b0

set_option maxHeartbeats 800000 in
theorem cmpOr2 (x y : Int) (g : Nat) (w : World) (h0 : w.cell? ⟨g, 0, none⟩ = some (.int .i64 x)) (h1 : w.cell? ⟨g, 1, none⟩ = some (.int .i64 y)) :
    Calls Try.prog 93 #[.slice (some ⟨g, 0, none⟩) 2 2] w fun e w' => e = .returned (.int .i64 (if x = 0 then y else x)) ∧ w = w' := by
  obtain ⟨Z, hZ⟩ : ∃ Z, (if x = 0 then y else x) = Z := ⟨_, rfl⟩
  rw [hZ]
  have HZ := hide hZ
  clear hZ
  go_enter Try.func93, Try.ntmps93
  go_wp2
  go_loopw [8] (fun i wr => ∃ k : Nat, k ≤ 2 ∧ i = .int .i64 k ∧ Hid ((1 ≤ k → x = 0) ∧ (2 ≤ k → y = 0)) ∧ w = wr) (fun i _ => 2 - (intOf i).toNat)
  case atStart => exact ⟨0, by omega, rfl, hide ⟨fun h => by omega, fun h => by omega⟩, rfl⟩
  case round =>
    obtain ⟨k, hk, rfl, HX, rfl⟩ := hrel
    rcases (by omega : k = 0 ∨ k = 1 ∨ k = 2) with rfl | rfl | rfl
    · by_cases hx : x = 0
      · have hq : (x != 0) = false := by simpa using hx
        have HXX := hide hx
        clear hx
        go_wp2
        go_roundw
        case rel => exact ⟨1, by omega, by go_num, hide ⟨fun _ => HXX.out, fun h => by omega⟩, trivial⟩
        case measure => simp [intOf]
      · have hq : (x != 0) = true := by simpa using hx
        have HXX := hide hx
        clear hx
        go_wp2
        go_ret
        exact ⟨ret_i64 (by rw [← HZ.out, if_neg HXX.out]), rfl⟩
    · by_cases hy : y = 0
      · have hq : (y != 0) = false := by simpa using hy
        have HYY := hide hy
        clear hy
        go_wp2
        go_roundw
        case rel => exact ⟨2, by omega, by go_num, hide ⟨fun _ => HX.out.1 (by omega), fun _ => HYY.out⟩, trivial⟩
        case measure => simp [intOf]
      · have hq : (y != 0) = true := by simpa using hy
        clear hy
        go_wp2
        go_ret
        exact ⟨ret_i64 (by rw [← HZ.out, if_pos (HX.out.1 (by omega))]), rfl⟩
    · have HR := hide (show Z = 0 by rw [← HZ.out, if_pos (HX.out.1 (by omega))]; exact HX.out.2 (by omega))
      go_wp2
      go_ret
      exact ⟨ret_i64 HR.out.symm, rfl⟩

set_option maxRecDepth 20000 in
set_option maxHeartbeats 1600000 in
theorem implInCmp (a b : DIn) (ha : oks a.cells) (hb : oks b.cells) (ua ub : List Value) (w : World) (hsa : Ins w a.cells ua) (hsb : Ins w b.cells ub) :
    Calls Try.prog 81 #[.agg ua.toArray, .agg ub.toArray] w fun e w' => e = .returned (.int .i64 (inCmpI a b)) ∧ Below w.heap.size w w' := by
  obtain ⟨Aa0, ca0, Aa1, ca1, rfl, ha0, ha1⟩ := DIn.view hsa
  obtain ⟨Ab0, cb0, Ab1, cb1, rfl, hb0, hb1⟩ := DIn.view hsb
  obtain ⟨wa, hwa⟩ : ∃ wa, w.alloc (.cells #[.slice Aa0 a.drv.length ca0, .slice Aa1 a.out.length ca1] 67) = wa := ⟨_, rfl⟩
  have baa : Below w.heap.size w wa := by rw [← hwa]; exact (Below.refl _ _).alloc (Nat.le_refl _) _
  have bxa : Box wa w.heap.size 67 [.slice Aa0 a.drv.length ca0, .slice Aa1 a.out.length ca1] := by rw [← hwa]; exact Box.new w _ _
  obtain ⟨wb, hwb⟩ : ∃ wb, wa.alloc (.cells #[.slice Ab0 b.drv.length cb0, .slice Ab1 b.out.length cb1] 67) = wb := ⟨_, rfl⟩
  have bab : Below wa.heap.size wa wb := by rw [← hwb]; exact (Below.refl _ _).alloc (Nat.le_refl _) _
  have bxb : Box wb wa.heap.size 67 [.slice Ab0 b.drv.length cb0, .slice Ab1 b.out.length cb1] := by rw [← hwb]; exact Box.new wa _ _
  have bel : Below w.heap.size w wb := baa.trans (bab.mono baa.size)
  have bxa2 := bxa.step bab
  have x0 := bxa2.cell (j := 0) rfl
  have x1 := bxa2.cell (j := 1) rfl
  have z0 := bxb.cell (j := 0) rfl
  have z1 := bxb.cell (j := 1) rfl
  have HC1 := hide (fun W (hW : Below w.heap.size w W) => compare a.drv b.drv _ _ W (ha0.step hW).rd (hb0.step hW).rd)
  have HC2 := hide (fun W (hW : Below w.heap.size w W) => compare a.out b.out _ _ W (ha1.step hW).rd (hb1.step hW).rd)
  have HBE := hide (bel.drew)
  have hdf : inCmpI a b = (if cmpI a.drv b.drv = 0 then cmpI a.out b.out else cmpI a.drv b.drv) := rfl
  have HDF := hide hdf
  have HS : Hid (∀ W, Below wb.heap.size wb W → W.cell? ⟨w.heap.size, 0, none⟩ = some (.slice Aa0 a.drv.length ca0) ∧ W.cell? ⟨w.heap.size, 1, none⟩ = some (.slice Aa1 a.out.length ca1) ∧ W.cell? ⟨wa.heap.size, 0, none⟩ = some (.slice Ab0 b.drv.length cb0) ∧ W.cell? ⟨wa.heap.size, 1, none⟩ = some (.slice Ab1 b.out.length cb1)) :=
    hide (fun W hb => ⟨(bxa2.step hb).cell (j := 0) rfl, (bxa2.step hb).cell (j := 1) rfl, (bxb.step hb).cell (j := 0) rfl, (bxb.step hb).cell (j := 1) rfl⟩)
  obtain ⟨X, hX⟩ : ∃ X, cmpI a.drv b.drv = X := ⟨_, rfl⟩
  obtain ⟨Y, hY⟩ : ∃ X, cmpI a.out b.out = X := ⟨_, rfl⟩
  rw [hX, hY] at HDF
  rw [hX] at HC1
  rw [hY] at HC2
  obtain ⟨wk, hwk⟩ : ∃ W, wb.alloc (.cells #[.int .i64 X, .int .i64 Y] 3) = W := ⟨_, rfl⟩
  have hbk := Box.new wb [.int .i64 X, .int .i64 Y] 3
  rw [hwk] at hbk
  have HBK := hide (show Below wb.heap.size wb wk.drew by rw [← hwk]; exact ((Below.refl _ _).alloc (Nat.le_refl _) _).drew)
  have hor := cmpOr2 X Y wb.heap.size wk.drew (hbk.cell (j := 0) rfl) (hbk.cell (j := 1) rfl)
  obtain ⟨Z, hZ⟩ : ∃ Z, (if X = 0 then Y else X) = Z := ⟨_, rfl⟩
  rw [hZ] at hor HDF
  have HOR := hide hor
  clear hor hZ
  have HBR := hide (show Below wb.heap.size wb wb.drew from (Below.refl _ _).drew)
  have HBF := hide (bel.trans (HBK.out.mono bel.size))
  clear hX hY hdf bxa bxb bxa2 ha0 ha1 hb0 hb1 baa bab bel hsa hsb hbk
  go_enter Try.func81, Try.ntmps81
  go_wp2_with fail
  go_region_held3 (fun W => W.cell? ⟨w.heap.size, 0, none⟩ = some (.slice Aa0 a.drv.length ca0) ∧ W.cell? ⟨w.heap.size, 1, none⟩ = some (.slice Aa1 a.out.length ca1) ∧ W.cell? ⟨wa.heap.size, 0, none⟩ = some (.slice Ab0 b.drv.length cb0) ∧ W.cell? ⟨wa.heap.size, 1, none⟩ = some (.slice Ab1 b.out.length cb1))
    (first
      | exact HS.out _ HBK.out
      | exact HS.out _ HBR.out
      | go_keep)
    (first
      | (go_simp; go_at_call 83; (with_reducible refine (HC1.out _ HBE.out).mono ?_); rintro e w8 ⟨rfl, rfl⟩)
      | (go_simp; go_at_call 83; (with_reducible refine (HC2.out _ HBE.out).mono ?_); rintro e w8 ⟨rfl, rfl⟩)
      | (go_simp; go_at_call 93; refine HOR.out.mono ?_; rintro e w8 ⟨rfl, rfl⟩))
  all_goals
    go_wp2
    go_ret
    exact ⟨ret_i64 HDF.out.symm, HBF.out⟩

theorem implInOk (a : DIn) (ha : oks a.cells) (hl : a.drv.length ≤ 1048576) (ua : List Value) (w : World) (hsa : Ins w a.cells ua) :
    Calls Try.prog 80 #[.agg ua.toArray] w fun e w' => e = .returned (.bool (inOkP a)) ∧ Below w.heap.size w w' := by
  obtain ⟨Aa0, ca0, Aa1, ca1, rfl, ha0, ha1⟩ := DIn.view hsa
  obtain ⟨oa0, oa1⟩ := (DIn.oks_iff a).1 ha
  obtain ⟨wa, hwa⟩ : ∃ wa, w.alloc (.cells #[.slice Aa0 a.drv.length ca0, .slice Aa1 a.out.length ca1] 67) = wa := ⟨_, rfl⟩
  have baa : Below w.heap.size w wa := by rw [← hwa]; exact (Below.refl _ _).alloc (Nat.le_refl _) _
  have bxa : Box wa w.heap.size 67 [.slice Aa0 a.drv.length ca0, .slice Aa1 a.out.length ca1] := by rw [← hwa]; exact Box.new w _ _
  have x0 := bxa.cell (j := 0) rfl
  have HBA := hide baa
  have HN := hide (implNameOk a.drv oa0 _ wa (ha0.step baa).rd (by omega))
  have HE := hide (fun W (hW : Below wa.heap.size wa W) => implEntryQ a.out oa1 _ W (ha1.step (baa.trans (hW.mono baa.size))).rd)
  have HX := hide (fun W (hW : Below wa.heap.size wa W) => (bxa.step hW).cell (j := 1) rfl)
  have hdf : inOkP a = (nameOk a.drv && entryOk a.out) := rfl
  have HDF := hide hdf
  generalize nameOk a.drv = X at *
  generalize entryOk a.out = Y at *
  clear hdf bxa ha0 ha1 oa0 oa1 hsa baa
  go_enter Try.func80, Try.ntmps80
  cases X <;> cases Y
  all_goals
    go_wp2_with fail
    refine HN.out.mono ?_
    rintro e w1 ⟨rfl, b1⟩
    have HB1 := hide b1
    have y1 := HX.out w1 b1
    clear b1
    go_wp2_with (go_at_call 70; refine (HE.out _ HB1.out).mono ?_; rintro e w2 ⟨rfl, rfl⟩)
    go_ret
    exact ⟨ret_bool (by rw [HDF.out]; rfl), HBA.out.trans (HB1.out.mono HBA.out.size)⟩

end Go.Proofs.Ytnloknhcdlannaa


namespace Go.Proofs.Ytnloknhcdlannaa
open Go.RowKit
set_option linter.unusedVariables false
set_option linter.unusedSimpArgs false

set_option maxRecDepth 20000 in
set_option maxHeartbeats 6400000 in
theorem ascendI (l : List DIn) (hok : ∀ x ∈ l, oks x.cells) (hbi : ∀ x ∈ l, x.drv.length + x.out.length ≤ 1048576) (A : Option Addr) (n c : Nat) (hn : l.length = n) (hn2 : n ≤ 1048576) (w : World) (hs : In1 w (seqOf 2 DIn.cells l) (.slice A n c)) :
    Calls Try.prog 79 #[.slice A n c, .func (.func 80) #[] #[], .func (.func 81) #[] #[]] w fun e w' => e = .returned (.bool (insOk l)) ∧ Below w.heap.size w w' := by
  obtain ⟨R, hR⟩ : ∃ R, insOk l = R := ⟨_, rfl⟩
  rw [hR]
  have HR := hide hR
  have HN := hide hn
  have HS := hide hs
  have HOK := hide hok
  have HBI := hide hbi
  clear hR hn hs hok hbi
  go_enter Try.func79, Try.ntmps79
  go_wp2
  go_loopw [11] (fun i wr => ∃ k : Nat, k ≤ n ∧ i = .int .i64 k ∧ Hid (∀ m, m < k → insAt l m = true) ∧ Hid (Below w.heap.size w wr)) (fun i _ => n - (intOf i).toNat)
  case atStart => exact ⟨0, Nat.zero_le _, rfl, hide (fun m hm => by omega), hide (Below.refl _ _)⟩
  case round =>
    obtain ⟨k, hk, rfl, HXX, HB⟩ := hrel
    by_cases hlt : k < n
    · have hk2 : k < l.length := by rw [HN.out]; exact hlt
      have k1 : (k : Int) < (n : Int) := by omega
      have k0 : (0 : Int) ≤ (k : Int) := by omega
      have k2_ : (k : Int).toNat = k := by omega
      obtain ⟨b, of, cc, B0, d0, B1, d1, -, e, lb, q0, q1, i0_, i1_⟩ := DIn.elem HS.out HB.out hk2
      obtain rfl := e rfl
      have hok_ := HOK.out _ (List.getElem_mem hk2)
      have hle_ := HBI.out _ (List.getElem_mem hk2)
      obtain ⟨LD, hLD⟩ : ∃ x, (l[k]).drv.length = x := ⟨_, rfl⟩
      obtain ⟨LO, hLO⟩ : ∃ x, (l[k]).out.length = x := ⟨_, rfl⟩
      obtain ⟨V, hV⟩ : ∃ V, inOkP l[k] = V := ⟨_, rfl⟩
      have hin := fun W (hb : Below w.heap.size w W) => hV ▸ implInOk l[k] hok_ (by omega) _ W (DIn.lay (i0_.step hb) (i1_.step hb))
      have hl0 := i0_
      have hl1 := i1_
      rw [hLD] at q0 hl0 hin
      rw [hLO] at q1 hl1 hin
      obtain ⟨wi, hwi⟩ : ∃ W, wr.alloc (.cells #[.slice B0 LD d0, .slice B1 LO d1] 67) = W := ⟨_, rfl⟩
      have hbw : Below wr.heap.size wr wi := by rw [← hwi]; exact (Below.refl _ _).alloc (Nat.le_refl _) _
      have hbx : Box wi wr.heap.size 67 [.slice B0 LD d0, .slice B1 LO d1] := by rw [← hwi]; exact Box.new wr _ _
      have HBX := hide (fun W (hb : Below wi.heap.size wi W) => hbx.step hb)
      have HBW := hide (HB.out.trans (hbw.mono HB.out.size))
      have HBD := hide (HBW.out.drew)
      have HIN := hide (hin _ HBD.out)
      have HVV := hide hV
      have HOKK := hide hok_
      have p0 := hbx.cell (j := 0) rfl
      have p1 := hbx.cell (j := 1) rfl
      have HL0 := hide hl0
      have HL1 := hide hl1
      have HWD := hide (show Below wi.heap.size wi wi.drew from (Below.refl _ _).drew)
      clear hok_ hle_ hLD hLO hV hin hl0 hl1 i0_ i1_ hbw hbx
      obtain ⟨C, hC⟩ : ∃ C, insAt l k = C := ⟨_, rfl⟩
      have HCC := hide hC
      clear hC
      have hund : undef = Value.tuple #[] := rfl
      go_upto_region 4 with (fail)
      go_cut [34] (fun v wx => v = .bool (!C) ∧ Hid (Below w.heap.size w wx))
      case first =>
        cases V with
        | false =>
          have HCF := hide (show C = false by rw [← HCC.out, insAt_eq hk2, HVV.out]; rfl)
          refine wp_region_any (by kernel_rfl) ?_
          try (change wpAny _ _ _ _ _ _ _ (World.drew _))
          refine wpAny_take (i := 0) (v := .func (.func 80) #[] #[]) rfl (by kernel_rfl) (by kernel_rfl) (by kernel_rfl) (fun _ _ _ h => h) (Or.inl ⟨by kernel_rfl, by intro w; go_simp⟩) ?_
          go_simp
          refine wpAny_ready (rs := [1]) (by kernel_rfl) (by simp) ?_
          refine AllReady.cons rfl (fun K hK => ?_) AllReady.nil
          go_simp
          refine hK _ _ ?_
          clear hK K
          refine wpAny_ready (rs := [2]) (by kernel_rfl) (by simp) ?_
          refine AllReady.cons rfl (fun K hK => ?_) AllReady.nil
          go_simp
          go_wp2_with ((go_at_call 80; refine HIN.out.mono ?_; rintro e w7 ⟨rfl, b7⟩; have HB7 := hide (HBD.out.trans (b7.mono HBD.out.size)); have HZ7 := hide (HWD.out.trans (b7.mono HWD.out.size)); clear b7))
          try (refine hK _ _ ?_; clear hK K)
          refine wpAny_take (i := 3) (v := .bool true) rfl (by kernel_rfl) (by kernel_rfl) (by kernel_rfl) (fun _ _ _ h => h) (Or.inl ⟨by kernel_rfl, by intro w; go_simp⟩) ?_
          go_simp
          refine wpAny_take (i := 4) (v := .bool true) rfl (by kernel_rfl) (by kernel_rfl) (by kernel_rfl) (fun _ _ _ h => h) (Or.inl ⟨by kernel_rfl, by intro w; go_simp⟩) ?_
          go_simp
          refine wpAny_take (i := 5) (v := undef) rfl (by kernel_rfl) (by kernel_rfl) (by kernel_rfl) (fun _ _ _ h => h) (Or.inr ⟨by kernel_rfl, rfl⟩) ?_
          go_simp
          refine wpAny_take (i := 6) (v := undef) rfl (by kernel_rfl) (by kernel_rfl) (by kernel_rfl) (fun _ _ _ h => h) (Or.inr ⟨by kernel_rfl, rfl⟩) ?_
          go_simp
          refine wpAny_take (i := 7) (v := undef) rfl (by kernel_rfl) (by kernel_rfl) (by kernel_rfl) (fun _ _ _ h => h) (Or.inr ⟨by kernel_rfl, rfl⟩) ?_
          go_simp
          refine wpAny_take (i := 8) (v := undef) rfl (by kernel_rfl) (by kernel_rfl) (by kernel_rfl) (fun _ _ _ h => h) (Or.inr ⟨by kernel_rfl, rfl⟩) ?_
          go_simp
          refine wpAny_take (i := 9) (v := undef) rfl (by kernel_rfl) (by kernel_rfl) (by kernel_rfl) (fun _ _ _ h => h) (Or.inr ⟨by kernel_rfl, rfl⟩) ?_
          go_simp
          refine wpAny_take (i := 10) (v := undef) rfl (by kernel_rfl) (by kernel_rfl) (by kernel_rfl) (fun _ _ _ h => h) (Or.inr ⟨by kernel_rfl, rfl⟩) ?_
          go_simp
          refine wpAny_take (i := 11) (v := undef) rfl (by kernel_rfl) (by kernel_rfl) (by kernel_rfl) (fun _ _ _ h => h) (Or.inr ⟨by kernel_rfl, rfl⟩) ?_
          go_simp
          refine wpAny_take (i := 12) (v := undef) rfl (by kernel_rfl) (by kernel_rfl) (by kernel_rfl) (fun _ _ _ h => h) (Or.inr ⟨by kernel_rfl, rfl⟩) ?_
          go_simp
          refine wpAny_take (i := 13) (v := undef) rfl (by kernel_rfl) (by kernel_rfl) (by kernel_rfl) (fun _ _ _ h => h) (Or.inr ⟨by kernel_rfl, rfl⟩) ?_
          go_simp
          refine wpAny_take (i := 14) (v := undef) rfl (by kernel_rfl) (by kernel_rfl) (by kernel_rfl) (fun _ _ _ h => h) (Or.inr ⟨by kernel_rfl, rfl⟩) ?_
          go_simp
          refine wpAny_take (i := 15) (v := undef) rfl (by kernel_rfl) (by kernel_rfl) (by kernel_rfl) (fun _ _ _ h => h) (Or.inr ⟨by kernel_rfl, rfl⟩) ?_
          go_simp
          refine wpAny_take (i := 16) (v := undef) rfl (by kernel_rfl) (by kernel_rfl) (by kernel_rfl) (fun _ _ _ h => h) (Or.inr ⟨by kernel_rfl, rfl⟩) ?_
          go_simp
          refine wpAny_take (i := 17) (v := undef) rfl (by kernel_rfl) (by kernel_rfl) (by kernel_rfl) (fun _ _ _ h => h) (Or.inr ⟨by kernel_rfl, rfl⟩) ?_
          go_simp
          refine wpAny_take (i := 18) (v := .bool true) rfl (by kernel_rfl) (by kernel_rfl) (by kernel_rfl) (fun _ _ _ h => h) (Or.inl ⟨by kernel_rfl, by intro w; go_simp⟩) ?_
          go_simp
          refine wpAny_done (by kernel_rfl) ?_ _
          go_wp2
          go_meet
          exact ⟨by rw [HCF.out]; rfl, HB7⟩
        | true =>
          by_cases hk0 : k = 0
          · subst hk0
            have HCF := hide (show C = true by rw [← HCC.out, insAt_eq hk2, HVV.out]; rfl)
            refine wp_region_any (by kernel_rfl) ?_
            try (change wpAny _ _ _ _ _ _ _ (World.drew _))
            refine wpAny_take (i := 0) (v := .func (.func 80) #[] #[]) rfl (by kernel_rfl) (by kernel_rfl) (by kernel_rfl) (fun _ _ _ h => h) (Or.inl ⟨by kernel_rfl, by intro w; go_simp⟩) ?_
            go_simp
            refine wpAny_ready (rs := [1]) (by kernel_rfl) (by simp) ?_
            refine AllReady.cons rfl (fun K hK => ?_) AllReady.nil
            go_simp
            refine hK _ _ ?_
            clear hK K
            refine wpAny_ready (rs := [2]) (by kernel_rfl) (by simp) ?_
            refine AllReady.cons rfl (fun K hK => ?_) AllReady.nil
            go_simp
            go_wp2_with ((go_at_call 80; refine HIN.out.mono ?_; rintro e w7 ⟨rfl, b7⟩; have HB7 := hide (HBD.out.trans (b7.mono HBD.out.size)); have HZ7 := hide (HWD.out.trans (b7.mono HWD.out.size)); clear b7))
            try (refine hK _ _ ?_; clear hK K)
            refine wpAny_take (i := 3) (v := .bool false) rfl (by kernel_rfl) (by kernel_rfl) (by kernel_rfl) (fun _ _ _ h => h) (Or.inl ⟨by kernel_rfl, by intro w; go_simp⟩) ?_
            go_simp
            refine wpAny_take (i := 4) (v := .bool false) rfl (by kernel_rfl) (by kernel_rfl) (by kernel_rfl) (fun _ _ _ h => h) (Or.inl ⟨by kernel_rfl, by intro w; go_simp⟩) ?_
            go_simp
            refine wpAny_take (i := 5) (v := .int .i64 0) rfl (by kernel_rfl) (by kernel_rfl) (by kernel_rfl) (fun _ _ _ h => h) (Or.inl ⟨by kernel_rfl, by intro w; go_simp⟩) ?_
            go_simp
            refine wpAny_take (i := 6) (v := .bool false) rfl (by kernel_rfl) (by kernel_rfl) (by kernel_rfl) (fun _ _ _ h => h) (Or.inl ⟨by kernel_rfl, by intro w; go_simp⟩) ?_
            go_simp
            refine wpAny_take (i := 7) (v := .bool false) rfl (by kernel_rfl) (by kernel_rfl) (by kernel_rfl) (fun _ _ _ h => h) (Or.inl ⟨by kernel_rfl, by intro w; go_simp⟩) ?_
            go_simp
            refine wpAny_take (i := 8) (v := undef) rfl (by kernel_rfl) (by kernel_rfl) (by kernel_rfl) (fun _ _ _ h => h) (Or.inr ⟨by kernel_rfl, rfl⟩) ?_
            go_simp
            refine wpAny_take (i := 9) (v := undef) rfl (by kernel_rfl) (by kernel_rfl) (by kernel_rfl) (fun _ _ _ h => h) (Or.inr ⟨by kernel_rfl, rfl⟩) ?_
            go_simp
            refine wpAny_take (i := 10) (v := undef) rfl (by kernel_rfl) (by kernel_rfl) (by kernel_rfl) (fun _ _ _ h => h) (Or.inr ⟨by kernel_rfl, rfl⟩) ?_
            go_simp
            refine wpAny_take (i := 11) (v := undef) rfl (by kernel_rfl) (by kernel_rfl) (by kernel_rfl) (fun _ _ _ h => h) (Or.inr ⟨by kernel_rfl, rfl⟩) ?_
            go_simp
            refine wpAny_take (i := 12) (v := undef) rfl (by kernel_rfl) (by kernel_rfl) (by kernel_rfl) (fun _ _ _ h => h) (Or.inr ⟨by kernel_rfl, rfl⟩) ?_
            go_simp
            refine wpAny_take (i := 13) (v := undef) rfl (by kernel_rfl) (by kernel_rfl) (by kernel_rfl) (fun _ _ _ h => h) (Or.inr ⟨by kernel_rfl, rfl⟩) ?_
            go_simp
            refine wpAny_take (i := 14) (v := undef) rfl (by kernel_rfl) (by kernel_rfl) (by kernel_rfl) (fun _ _ _ h => h) (Or.inr ⟨by kernel_rfl, rfl⟩) ?_
            go_simp
            refine wpAny_take (i := 15) (v := undef) rfl (by kernel_rfl) (by kernel_rfl) (by kernel_rfl) (fun _ _ _ h => h) (Or.inr ⟨by kernel_rfl, rfl⟩) ?_
            go_simp
            refine wpAny_take (i := 16) (v := undef) rfl (by kernel_rfl) (by kernel_rfl) (by kernel_rfl) (fun _ _ _ h => h) (Or.inr ⟨by kernel_rfl, rfl⟩) ?_
            go_simp
            refine wpAny_take (i := 17) (v := .bool false) rfl (by kernel_rfl) (by kernel_rfl) (by kernel_rfl) (fun _ _ _ h => h) (Or.inl ⟨by kernel_rfl, by intro w; go_simp⟩) ?_
            go_simp
            refine wpAny_take (i := 18) (v := .bool false) rfl (by kernel_rfl) (by kernel_rfl) (by kernel_rfl) (fun _ _ _ h => h) (Or.inl ⟨by kernel_rfl, by intro w; go_simp⟩) ?_
            go_simp
            refine wpAny_done (by kernel_rfl) ?_ _
            go_wp2
            go_meet
            exact ⟨by rw [HCF.out]; rfl, HB7⟩
          · have hj2 : k - 1 < l.length := by omega
            obtain ⟨bp, op, ccp, Bp0, dp0, Bp1, dp1, -, ep, lp, qp0, qp1, ip0, ip1⟩ := DIn.elem HS.out (Below.refl _ _) hj2
            have ep2 := ep rfl
            injection ep2 with ep3
            injection ep3 with ep4 ep5
            subst ep4 ep5
            have hokp := HOK.out _ (List.getElem_mem hj2)
            have HP0 := hide (fun W (hb : Below w.heap.size w W) => (hb.cell (p := ⟨b, of + (k - 1) * 2, none⟩) lb).trans qp0)
            have HP1 := hide (fun W (hb : Below w.heap.size w W) => (hb.cell (p := ⟨b, of + (k - 1) * 2 + 1, none⟩) lb).trans qp1)
            obtain ⟨z, hz⟩ : ∃ z, inCmpI l[k - 1] l[k] = z := ⟨_, rfl⟩
            have hic := fun W (hb : Below w.heap.size w W) => hz ▸ implInCmp l[k - 1] l[k] hokp HOKK.out _ _ W (DIn.lay (ip0.step hb) (ip1.step hb)) (DIn.lay (HL0.out.step hb) (HL1.out.step hb))
            have HIC := hide hic
            have hCz : (!C) = decide (0 ≤ z) := by rw [← hz, inCmpI_less hokp HOKK.out, ← HCC.out, insAt_more hk2 hk0, HVV.out]; rfl
            have HCZ := hide hCz
            have r0_ := HP0.out wi HBW.out
            have r1_ := HP1.out wi HBW.out
            have k3 : (k : Int) - 1 < (n : Int) := by omega
            have k4 : (0 : Int) ≤ (k : Int) - 1 := by omega
            have k4' : (1 : Int) ≤ (k : Int) := by omega
            have k5 : ((k : Int) - 1).toNat = k - 1 := by omega
            have k6 : IntKind.i64.wrap ((k : Int) - 1) = (k : Int) - 1 := IntWalk.i64_in _ (by omega)
            have k7 : 0 < k := by omega
            have HSS : Hid (∀ W, Below wi.heap.size wi W → Below w.heap.size w W → W.cell? ⟨wr.heap.size, 0, none⟩ = some (.slice B0 LD d0) ∧ W.cell? ⟨wr.heap.size, 1, none⟩ = some (.slice B1 LO d1) ∧ W.cell? ⟨b, of + (k - 1) * 2, none⟩ = some (.slice Bp0 (l[k - 1]).drv.length dp0) ∧ W.cell? ⟨b, of + (k - 1) * 2 + 1, none⟩ = some (.slice Bp1 (l[k - 1]).out.length dp1)) :=
              hide (fun W hb hb2 => ⟨(HBX.out W hb).cell (j := 0) rfl, (HBX.out W hb).cell (j := 1) rfl, HP0.out W hb2, HP1.out W hb2⟩)
            clear hokp hz hic hCz qp0 qp1 ip0 ip1 hk0
            go_region_held3 (fun W => W.cell? ⟨wr.heap.size, 0, none⟩ = some (.slice B0 LD d0) ∧ W.cell? ⟨wr.heap.size, 1, none⟩ = some (.slice B1 LO d1) ∧ W.cell? ⟨b, of + (k - 1) * 2, none⟩ = some (.slice Bp0 (l[k - 1]).drv.length dp0) ∧ W.cell? ⟨b, of + (k - 1) * 2 + 1, none⟩ = some (.slice Bp1 (l[k - 1]).out.length dp1))
              (first
                | exact HSS.out _ HZ8.out HB8.out
                | exact HSS.out _ HZ7.out HB7.out
                | exact HSS.out _ HWD.out HBD.out
                | go_keep)
              (first
                | (go_simp; go_at_call 80; refine HIN.out.mono ?_; rintro e w7 ⟨rfl, b7⟩; have HB7 := hide (HBD.out.trans (b7.mono HBD.out.size)); have HZ7 := hide (HWD.out.trans (b7.mono HWD.out.size)); clear b7)
                | (go_simp; go_at_call 81; refine (HIC.out _ HB7.out).mono ?_; rintro e w8 ⟨rfl, b8⟩; have HB8 := hide (HB7.out.trans (b8.mono HB7.out.size)); have HZ8 := hide (HZ7.out.trans (b8.mono HZ7.out.size)); clear b8))
            all_goals
              go_wp2
              go_meet
              exact ⟨by rw [HCZ.out], HB8⟩
      case rest =>
        obtain ⟨rfl, HB2⟩ := hcut
        clear p0 p1 HB
        cases C with
        | true =>
          go_wp2_with fail
          go_roundw
          case rel => exact ⟨k + 1, by omega, by go_num, hide (fun m hm => by
            rcases Nat.lt_or_ge m k with h | h
            · exact HXX.out m h
            · obtain rfl : m = k := by omega
              exact HCC.out), HB2⟩
          case measure => simp [intOf]; omega
        | false =>
          have HF := hide (show R = false by
            rw [← HR.out]
            exact Bool.eq_false_iff.2 fun h => by
              have := range_all.1 h k hk2
              rw [HCC.out] at this
              cases this)
          go_wp2_with fail
          go_ret
          exact ⟨ret_bool HF.out.symm, HB2.out⟩
    · obtain rfl : k = n := by omega
      have HIT := hide (show R = true by rw [← HR.out]; exact range_all.2 fun m hm => HXX.out m (by rw [HN.out] at hm; exact hm))
      go_wp2
      go_ret
      exact ⟨ret_bool HIT.out.symm, HB.out⟩

end Go.Proofs.Ytnloknhcdlannaa


namespace Go.Proofs.Ytnloknhcdlannaa
open Go.RowKit
set_option linter.unusedVariables false

set_option maxRecDepth 20000 in
set_option maxHeartbeats 1600000 in
theorem ascendN (ns : List (List Int)) (hB : BytN ns) (v : Value) (w : World) (hv : RdN w v ns) (hlen : ∀ l ∈ ns, l.length ≤ 1048576) :
    Calls Try.prog 82 #[v, .func (.func 92) #[] #[], .func (.func 83) #[] #[]] w fun e w' => e = .returned (.bool (ascP nameOk ns)) ∧ Below w.heap.size w w' := by
  obtain ⟨vs, hv, hvl, hvs⟩ := hv
  obtain ⟨A, c, rfl, hc1, hc2, hrd⟩ := hv
  obtain ⟨n, hn⟩ : ∃ n, ns.length = n := ⟨_, rfl⟩
  rw [hn] at hvl
  rw [hvl] at hc1 hrd ⊢
  unfold maxLen at hc2
  obtain ⟨R, hR⟩ : ∃ R, ascP nameOk ns = R := ⟨_, rfl⟩
  rw [hR]
  have HN := hide hn
  have HVL := hide hvl
  have HRD := hide hrd
  have HVS := hide hvs
  have HR : Hid (ascPF nameOk ns (n - 0) 0 = R) := by rw [← hR, ascP, hn]; exact hide rfl
  have HBN := hide hB
  have HLEN := hide hlen
  clear hlen hn hvl hrd hvs hR hB
  go_enter Try.func82, Try.ntmps82
  go_wp2
  go_loopw [11] (fun i wr => ∃ k : Nat, k ≤ n ∧ i = .int .i64 k ∧ Hid (ascPF nameOk ns (n - k) k = R) ∧ Below w.heap.size w wr) (fun i _ => n - (intOf i).toNat)
  case atStart => exact ⟨0, Nat.zero_le _, rfl, HR, Below.refl _ _⟩
  case round =>
    obtain ⟨k, hk, rfl, hx, hbel⟩ := hrel
    have HB := hide hbel
    by_cases hlt : k < n
    · have hkl : k < ns.length := by rw [HN.out]; exact hlt
      obtain ⟨b, off, rfl, hblt, hcell⟩ := HRD.out (by omega)
      obtain ⟨x, hxe⟩ : ∃ x, vs[k]? = some x := ⟨_, List.getElem?_eq_getElem (by rw [HVL.out]; exact hlt)⟩
      have q1 := (hbel.cell (p := ⟨b, off + k, none⟩) hblt).trans (hcell k x hxe)
      have r1 := (HVS.out k x hxe).below hbel
      have hmore := ascPF_more (p := nameOk) hkl
      rw [HN.out, hx.out] at hmore
      have hBk : Byt (ns.getD k []) := by
        have : ns.getD k [] ∈ ns := by simp [List.getD, List.getElem?_eq_getElem hkl]
        exact HBN.out _ this
      have hlk : (ns.getD k []).length ≤ 1048576 := by
        have : ns.getD k [] ∈ ns := by simp [List.getD, List.getElem?_eq_getElem hkl]
        exact HLEN.out _ this
      have e1 := fun W (hb : Rd W x (bs (ns.getD k []))) => implNameOk (ns.getD k []) hBk x W hb (by omega)
      clear hlk
      have k1 : (k : Int) < (n : Int) := by omega
      have hnm : nameP nameOk ns k = (nameOk (ns.getD k []) && (decide (k = 0) || lessL (ns.getD (k - 1) []) (ns.getD k []))) := rfl
      rw [hnm] at hmore
      cases he : nameOk (ns.getD k []) with
      | false =>
        have a1 := e1 wr r1
        rw [he] at a1 hmore
        rw [Bool.false_and, Bool.false_and] at hmore
        have HM := hide hmore
        clear hmore hnm he e1 r1 hcell hxe hbel
        go_wp2_with fail
        refine a1.mono ?_
        rintro e w2 ⟨rfl, b2⟩
        go_wp2_with fail
        go_ret
        exact ⟨ret_bool HM.out.symm, HB.out.trans (b2.mono HB.out.size)⟩
      | true =>
        have a1 := e1 wr r1
        rw [he] at a1 hmore
        rw [Bool.true_and] at hmore
        by_cases hk0 : k = 0
        · subst hk0
          have q1' : wr.cell? ⟨b, off, none⟩ = some x := by simpa using q1
          have hm2 : ascPF nameOk ns (n - (0 + 1)) (0 + 1) = R := by simpa using hmore.symm
          have HM := hide hm2
          clear hmore hm2 hnm he e1 r1 hcell hxe hbel q1
          go_wp2_with fail
          refine a1.mono ?_
          rintro e w2 ⟨rfl, b2⟩
          have B2 := hide (HB.out.trans (b2.mono HB.out.size))
          clear b2
          go_wp2_with fail
          go_roundw
          case rel => exact ⟨0 + 1, by omega, by go_num, HM, B2.out⟩
          case measure => simp [intOf]; omega
        · rw [decide_eq_false hk0, Bool.false_or] at hmore
          obtain ⟨y, hye⟩ : ∃ y, vs[k - 1]? = some y := ⟨_, List.getElem?_eq_getElem (by rw [HVL.out]; omega)⟩
          have q2 := (hbel.cell (p := ⟨b, off + (k - 1), none⟩) hblt).trans (hcell (k - 1) y hye)
          have r2 := (HVS.out (k - 1) y hye).below hbel
          have hBj : Byt (ns.getD (k - 1) []) := by
            have : ns.getD (k - 1) [] ∈ ns := by simp [List.getD, List.getElem?_eq_getElem (show k - 1 < ns.length by omega)]
            exact HBN.out _ this
          have a2 := fun W (hb : Below wr.heap.size wr W) => compare (ns.getD (k - 1) []) (ns.getD k []) y x W (r2.below hb) (r1.below hb)
          have Q2 := hide (fun W (hb : Below wr.heap.size wr W) => (hb.cell (p := ⟨b, off + (k - 1), none⟩) (Nat.lt_of_lt_of_le hblt hbel.size)).trans q2)
          have hcmp := cmpI_less hBj hBk
          obtain ⟨z, hz⟩ : ∃ z, cmpI (ns.getD (k - 1) []) (ns.getD k []) = z := ⟨_, rfl⟩
          rw [hz] at hcmp
          have A2 := hide (fun W hb => hz ▸ a2 W hb)
          have k2 : ((k : Int) - 1) < (n : Int) := by omega
          have k3 : (1 : Int) ≤ (k : Int) := by omega
          have k4 : ((k : Int) - 1).toNat = k - 1 := by omega
          have k5 : 0 < k := by omega
          cases hls : lessL (ns.getD (k - 1) []) (ns.getD k []) with
          | true =>
            rw [hls] at hmore hcmp
            have hz0 : z < 0 := by simpa using hcmp
            have hm2 : ascPF nameOk ns (n - (k + 1)) (k + 1) = R := by simpa using hmore.symm
            have HM := hide hm2
            clear hmore hm2 hnm he e1 r1 r2 hcell hxe hye hz hcmp hls hBj hBk q2 a2 hbel
            go_wp2_with fail
            refine a1.mono ?_
            rintro e w2 ⟨rfl, b2⟩
            have q2 := Q2.out w2 b2
            have B2 := hide (HB.out.trans (b2.mono HB.out.size))
            have a3 := A2.out w2 b2
            clear b2
            go_wp2_with fail
            refine a3.mono ?_
            rintro e w' ⟨rfl, rfl⟩
            go_wp2_with fail
            go_roundw
            case rel => exact ⟨k + 1, by omega, by go_num, HM, B2.out⟩
            case measure => simp [intOf]; omega
          | false =>
            rw [hls] at hmore hcmp
            have hz0 : ¬ z < 0 := by simpa using hcmp
            rw [Bool.false_and] at hmore
            have HM := hide hmore
            clear hmore hnm he e1 r1 r2 hcell hxe hye hz hcmp hls hBj hBk q2 a2 hbel
            go_wp2_with fail
            refine a1.mono ?_
            rintro e w2 ⟨rfl, b2⟩
            have q2 := Q2.out w2 b2
            have B2 := hide (HB.out.trans (b2.mono HB.out.size))
            have a3 := A2.out w2 b2
            clear b2
            go_wp2_with fail
            refine a3.mono ?_
            rintro e w' ⟨rfl, rfl⟩
            go_wp2_with fail
            go_ret
            exact ⟨ret_bool HM.out.symm, B2.out⟩
    · obtain rfl : k = n := by omega
      have hfin : true = R := by rw [← hx.out, Nat.sub_self, ascPF]
      have HF := hide hfin
      clear hfin hbel
      go_wp2
      go_ret
      exact ⟨ret_bool HF.out, HB.out⟩

end Go.Proofs.Ytnloknhcdlannaa


namespace Go.Proofs.Ytnloknhcdlannaa
open Go.RowKit
set_option linter.unusedVariables false

set_option maxRecDepth 20000 in
set_option maxHeartbeats 1600000 in
theorem ascendE (ns : List (List Int)) (hB : BytN ns) (v : Value) (w : World) (hv : RdN w v ns) :
    Calls Try.prog 82 #[v, .func (.func 70) #[] #[], .func (.func 83) #[] #[]] w fun e w' => e = .returned (.bool (ascP entryOk ns)) ∧ Below w.heap.size w w' := by
  obtain ⟨vs, hv, hvl, hvs⟩ := hv
  obtain ⟨A, c, rfl, hc1, hc2, hrd⟩ := hv
  obtain ⟨n, hn⟩ : ∃ n, ns.length = n := ⟨_, rfl⟩
  rw [hn] at hvl
  rw [hvl] at hc1 hrd ⊢
  unfold maxLen at hc2
  obtain ⟨R, hR⟩ : ∃ R, ascP entryOk ns = R := ⟨_, rfl⟩
  rw [hR]
  have HN := hide hn
  have HVL := hide hvl
  have HRD := hide hrd
  have HVS := hide hvs
  have HR : Hid (ascPF entryOk ns (n - 0) 0 = R) := by rw [← hR, ascP, hn]; exact hide rfl
  have HBN := hide hB
  clear hn hvl hrd hvs hR hB
  go_enter Try.func82, Try.ntmps82
  go_wp2
  go_loopw [11] (fun i wr => ∃ k : Nat, k ≤ n ∧ i = .int .i64 k ∧ Hid (ascPF entryOk ns (n - k) k = R) ∧ Below w.heap.size w wr) (fun i _ => n - (intOf i).toNat)
  case atStart => exact ⟨0, Nat.zero_le _, rfl, HR, Below.refl _ _⟩
  case round =>
    obtain ⟨k, hk, rfl, hx, hbel⟩ := hrel
    have HB := hide hbel
    by_cases hlt : k < n
    · have hkl : k < ns.length := by rw [HN.out]; exact hlt
      obtain ⟨b, off, rfl, hblt, hcell⟩ := HRD.out (by omega)
      obtain ⟨x, hxe⟩ : ∃ x, vs[k]? = some x := ⟨_, List.getElem?_eq_getElem (by rw [HVL.out]; exact hlt)⟩
      have q1 := (hbel.cell (p := ⟨b, off + k, none⟩) hblt).trans (hcell k x hxe)
      have r1 := (HVS.out k x hxe).below hbel
      have hmore := ascPF_more (p := entryOk) hkl
      rw [HN.out, hx.out] at hmore
      have hBk : Byt (ns.getD k []) := by
        have : ns.getD k [] ∈ ns := by simp [List.getD, List.getElem?_eq_getElem hkl]
        exact HBN.out _ this
      have e1 := fun W (hb : Rd W x (bs (ns.getD k []))) => (implEntryQ (ns.getD k []) hBk x W hb).mono fun e w' ⟨h1, h2⟩ => (⟨h1, below_eq h2⟩ : _ ∧ Below W.heap.size W w')
      have k1 : (k : Int) < (n : Int) := by omega
      have hnm : nameP entryOk ns k = (entryOk (ns.getD k []) && (decide (k = 0) || lessL (ns.getD (k - 1) []) (ns.getD k []))) := rfl
      rw [hnm] at hmore
      cases he : entryOk (ns.getD k []) with
      | false =>
        have a1 := e1 wr r1
        rw [he] at a1 hmore
        rw [Bool.false_and, Bool.false_and] at hmore
        have HM := hide hmore
        clear hmore hnm he e1 r1 hcell hxe hbel
        go_wp2_with fail
        refine a1.mono ?_
        rintro e w2 ⟨rfl, b2⟩
        go_wp2_with fail
        go_ret
        exact ⟨ret_bool HM.out.symm, HB.out.trans (b2.mono HB.out.size)⟩
      | true =>
        have a1 := e1 wr r1
        rw [he] at a1 hmore
        rw [Bool.true_and] at hmore
        by_cases hk0 : k = 0
        · subst hk0
          have q1' : wr.cell? ⟨b, off, none⟩ = some x := by simpa using q1
          have hm2 : ascPF entryOk ns (n - (0 + 1)) (0 + 1) = R := by simpa using hmore.symm
          have HM := hide hm2
          clear hmore hm2 hnm he e1 r1 hcell hxe hbel q1
          go_wp2_with fail
          refine a1.mono ?_
          rintro e w2 ⟨rfl, b2⟩
          have B2 := hide (HB.out.trans (b2.mono HB.out.size))
          clear b2
          go_wp2_with fail
          go_roundw
          case rel => exact ⟨0 + 1, by omega, by go_num, HM, B2.out⟩
          case measure => simp [intOf]; omega
        · rw [decide_eq_false hk0, Bool.false_or] at hmore
          obtain ⟨y, hye⟩ : ∃ y, vs[k - 1]? = some y := ⟨_, List.getElem?_eq_getElem (by rw [HVL.out]; omega)⟩
          have q2 := (hbel.cell (p := ⟨b, off + (k - 1), none⟩) hblt).trans (hcell (k - 1) y hye)
          have r2 := (HVS.out (k - 1) y hye).below hbel
          have hBj : Byt (ns.getD (k - 1) []) := by
            have : ns.getD (k - 1) [] ∈ ns := by simp [List.getD, List.getElem?_eq_getElem (show k - 1 < ns.length by omega)]
            exact HBN.out _ this
          have a2 := fun W (hb : Below wr.heap.size wr W) => compare (ns.getD (k - 1) []) (ns.getD k []) y x W (r2.below hb) (r1.below hb)
          have Q2 := hide (fun W (hb : Below wr.heap.size wr W) => (hb.cell (p := ⟨b, off + (k - 1), none⟩) (Nat.lt_of_lt_of_le hblt hbel.size)).trans q2)
          have hcmp := cmpI_less hBj hBk
          obtain ⟨z, hz⟩ : ∃ z, cmpI (ns.getD (k - 1) []) (ns.getD k []) = z := ⟨_, rfl⟩
          rw [hz] at hcmp
          have A2 := hide (fun W hb => hz ▸ a2 W hb)
          have k2 : ((k : Int) - 1) < (n : Int) := by omega
          have k3 : (1 : Int) ≤ (k : Int) := by omega
          have k4 : ((k : Int) - 1).toNat = k - 1 := by omega
          have k5 : 0 < k := by omega
          cases hls : lessL (ns.getD (k - 1) []) (ns.getD k []) with
          | true =>
            rw [hls] at hmore hcmp
            have hz0 : z < 0 := by simpa using hcmp
            have hm2 : ascPF entryOk ns (n - (k + 1)) (k + 1) = R := by simpa using hmore.symm
            have HM := hide hm2
            clear hmore hm2 hnm he e1 r1 r2 hcell hxe hye hz hcmp hls hBj hBk q2 a2 hbel
            go_wp2_with fail
            refine a1.mono ?_
            rintro e w2 ⟨rfl, b2⟩
            have q2 := Q2.out w2 b2
            have B2 := hide (HB.out.trans (b2.mono HB.out.size))
            have a3 := A2.out w2 b2
            clear b2
            go_wp2_with fail
            refine a3.mono ?_
            rintro e w' ⟨rfl, rfl⟩
            go_wp2_with fail
            go_roundw
            case rel => exact ⟨k + 1, by omega, by go_num, HM, B2.out⟩
            case measure => simp [intOf]; omega
          | false =>
            rw [hls] at hmore hcmp
            have hz0 : ¬ z < 0 := by simpa using hcmp
            rw [Bool.false_and] at hmore
            have HM := hide hmore
            clear hmore hnm he e1 r1 r2 hcell hxe hye hz hcmp hls hBj hBk q2 a2 hbel
            go_wp2_with fail
            refine a1.mono ?_
            rintro e w2 ⟨rfl, b2⟩
            have q2 := Q2.out w2 b2
            have B2 := hide (HB.out.trans (b2.mono HB.out.size))
            have a3 := A2.out w2 b2
            clear b2
            go_wp2_with fail
            refine a3.mono ?_
            rintro e w' ⟨rfl, rfl⟩
            go_wp2_with fail
            go_ret
            exact ⟨ret_bool HM.out.symm, B2.out⟩
    · obtain rfl : k = n := by omega
      have hfin : true = R := by rw [← hx.out, Nat.sub_self, ascPF]
      have HF := hide hfin
      clear hfin hbel
      go_wp2
      go_ret
      exact ⟨ret_bool HF.out, HB.out⟩

end Go.Proofs.Ytnloknhcdlannaa
