/-
  Parts of the proof: AccS, InCmpI, ShaO.
-/
import Derived.Test.YtigklnokgmcifaaDoorMd20
import Derived.Deep.RegionLaw
import Derived.Test.YtigklnokgmcifaaDoorMd19
import Derived.Test.YtigklnokgmcifaaDoorMd16
import Derived.Test.YtigklnokgmcifaaDoorMd8
import Derived.Deep.RegionHeld3
import Derived.Deep.RegionWith

/-
  A row of bytes that the model collects: PutText, and append in a region that draws.
-/
namespace Go.Proofs.YtigklnokgmcifaaDoor
open Go.RowKit
set_option linter.unusedVariables false

theorem Acc.put {w0 W : World} {L t : List Int} {v u : Value} (h : Acc w0 L v W) (hu : Rd W u (bs t)) (hl : L.length ≤ 1048700000) :
    Calls Tryd.prog 64 #[v, u] W fun e w' => ∃ v', e = .returned v' ∧ Acc w0 (L ++ etx t) v' w' ∧ Below W.heap.size W w' := by
  have hrow := h.row
  have hrd : Rd W v (bs L) := (Own.of hrow (bs_length L).symm).rd
  refine (specPutText L v t u W hrd hu (by omega)).mono ?_
  rintro e w' ⟨v', rfl, h1, h2⟩
  rw [putText_etx] at h1
  refine ⟨v', rfl, Acc.of (own_low (own_len h1.1 (bs_length _)) h.below.size) (h.below.trans (h2.mono h.below.size)), h2⟩

theorem step_app {P : Program} (w : World) {ops : Array Oper} {o : Oper} {a : Act} {K : Act → World → Prop} {Q : Exit → Act → World → Prop} {E : Prop} (hgd : o.guard = none) (s x : Operand) (t : TypeId)
    (ho : o.op = .call { callee := .builtin .append, args := #[s, x], argTypes := #[t, t] })
    (base : Nat) (e : TypeId) (i : TypeInfo) (z : Value) (bytes : Nat) (ht : P.underlying t = some (.slice e)) (hi : P.info? e = some i) (hz : i.zero = some z)
    (hsize : i.size = 1) (hby : i.bytes = bytes) (hzs : z.cells.size = 1)
    (v : Value) (n : Nat) (xs : List Value) (hs : a.eval s = v) (hown : w.ownsRow base e 1 v n xs) (y : Value) (ys : List Value) (hx : a.eval x = y) (hr : Rd w y ys) (h1 : ∀ u ∈ ys, u.oneCell' = true)
    (h63 : n + ys.length ≤ maxLen) (hbytes : (n + ys.length) * bytes ≤ 140737488355328) (hbase : base ≤ w.heap.size)
    (h : ∀ v' w', w'.ownsRow base e 1 v' (n + ys.length) (xs ++ ys) → w.grownBy w' v.ownBlock → K (a.put o.dst v') w') : if Region.wanted o (yielded ops a.tmps) = true then Oper.wp P o a w K Q else E := by
  have hw : Region.wanted o (yielded ops a.tmps) = true := by simp [Region.wanted, hgd]
  rw [if_pos hw]
  obtain ⟨v', w', hrun, h2, h3⟩ := run_app (P := P) w base t o.type e i z bytes ht hi hz hsize hby hzs v n xs hown y ys hr h1 h63 hbytes hbase
  unfold Oper.wp execOp
  simp only [ho, resolve, invoke, builtin, Sem.run_bind, Sem.run_pure, Result.andThen_ok, List.map_toArray, List.map_cons, List.map_nil, hs, hx, hrun]
  exact h v' w' h2 h3

end Go.Proofs.YtigklnokgmcifaaDoor


/-
  The program's compareIns.
-/
namespace Go.Proofs.YtigklnokgmcifaaDoor
open Go.RowKit
set_option linter.unusedVariables false
set_option linter.unusedSimpArgs false

theorem cmpB_zero : ∀ (a b : List UInt8), Lib.compareBytes a b = 0 ↔ a = b
  | [], [] => by simp [Lib.compareBytes]
  | [], _ :: _ => by simp [Lib.compareBytes]
  | _ :: _, [] => by simp [Lib.compareBytes]
  | x :: a, y :: b => by
    have ih := cmpB_zero a b
    unfold Lib.compareBytes
    by_cases h1 : x < y
    · have : x ≠ y := fun e => by subst e; exact UInt8.lt_irrefl _ h1
      simp [h1, this]
    · by_cases h2 : y < x
      · have : x ≠ y := fun e => by subst e; exact UInt8.lt_irrefl _ h2
        simp [h1, h2, this]
      · have h3 : x = y := UInt8.le_antisymm (UInt8.not_lt.1 h2) (UInt8.not_lt.1 h1)
        subst h3
        rw [if_neg h1, if_neg h1, ih]
        simp
theorem cmpI_zero {a b : List Int} (ha : Byt a) (hb : Byt b) : cmpI a b = 0 ↔ a = b := by
  unfold cmpI
  rw [cmpB_zero]
  constructor
  · intro h
    refine str_inj ha hb ?_
    rw [ByteArray.toList_eq, ByteArray.toList_eq]
    exact h
  · rintro rfl; rfl
theorem inLess_eq (a b : DIn) : inLess a b = if a.drv = b.drv then lessL a.out b.out else lessL a.drv b.drv := by
  unfold inLess realCmp asReal
  simp only
  split
  · split
    · rename_i h; rw [h]; rfl
    · rename_i h
      have h2 : lessL a.out b.out = false := by simpa using h
      rw [h2]
      split <;> rfl
  · split
    · rename_i h; rw [h]; rfl
    · rename_i h
      have h2 : lessL a.drv b.drv = false := by simpa using h
      rw [h2]
      rfl
/-- What compareIns answers. -/
def inCmpI (a b : DIn) : Int := if cmpI a.drv b.drv = 0 then cmpI a.out b.out else cmpI a.drv b.drv
theorem inCmpI_less {a b : DIn} (ha : oks a.cells) (hb : oks b.cells) : decide (0 ≤ inCmpI a b) = !inLess a b := by
  obtain ⟨a0, a1⟩ := (DIn.oks_iff a).1 ha
  obtain ⟨b0, b1⟩ := (DIn.oks_iff b).1 hb
  rw [inLess_eq, inCmpI]
  by_cases h : a.drv = b.drv
  · rw [if_pos h, if_pos ((cmpI_zero a0 b0).2 h)]
    exact cmpI_less a1 b1
  · rw [if_neg h, if_neg (fun e => h ((cmpI_zero a0 b0).1 e))]
    exact cmpI_less a0 b0

set_option maxHeartbeats 800000 in
theorem cmpOr2 (x y : Int) (g : Nat) (w : World) (h0 : w.cell? ⟨g, 0, none⟩ = some (.int .i64 x)) (h1 : w.cell? ⟨g, 1, none⟩ = some (.int .i64 y)) :
    Calls Tryd.prog 126 #[.slice (some ⟨g, 0, none⟩) 2 2] w fun e w' => e = .returned (.int .i64 (if x = 0 then y else x)) ∧ w = w' := by
  obtain ⟨Z, hZ⟩ : ∃ Z, (if x = 0 then y else x) = Z := ⟨_, rfl⟩
  rw [hZ]
  have HZ := hide hZ
  clear hZ
  go_enter Tryd.func126, Tryd.ntmps126
  go_wp2
  go_loopw [8] (fun i wr => ∃ k : Nat, k ≤ 2 ∧ i = .int .i64 k ∧ Hid ((1 ≤ k → x = 0) ∧ (2 ≤ k → y = 0)) ∧ w = wr) (fun i _ => 2 - (intOf i).toNat)
  case atStart => exact ⟨0, by omega, rfl, hide ⟨fun h => by omega, fun h => by omega⟩, rfl⟩
  case round =>
    obtain ⟨k, hk, rfl, HX, rfl⟩ := hrel
    rcases (by omega : k = 0 ∨ k = 1 ∨ k = 2) with rfl | rfl | rfl
    · by_cases hx : x = 0
      · have hq : (x != 0) = false := by simpa using hx
        have HXX := hide hx
        clear hx
        go_wp2
        go_roundw
        case rel => exact ⟨1, by omega, by go_num, hide ⟨fun _ => HXX.out, fun h => by omega⟩, trivial⟩
        case measure => simp [intOf]
      · have hq : (x != 0) = true := by simpa using hx
        have HXX := hide hx
        clear hx
        go_wp2
        go_ret
        exact ⟨ret_i64 (by rw [← HZ.out, if_neg HXX.out]), rfl⟩
    · by_cases hy : y = 0
      · have hq : (y != 0) = false := by simpa using hy
        have HYY := hide hy
        clear hy
        go_wp2
        go_roundw
        case rel => exact ⟨2, by omega, by go_num, hide ⟨fun _ => HX.out.1 (by omega), fun _ => HYY.out⟩, trivial⟩
        case measure => simp [intOf]
      · have hq : (y != 0) = true := by simpa using hy
        clear hy
        go_wp2
        go_ret
        exact ⟨ret_i64 (by rw [← HZ.out, if_pos (HX.out.1 (by omega))]), rfl⟩
    · have HR := hide (show Z = 0 by rw [← HZ.out, if_pos (HX.out.1 (by omega))]; exact HX.out.2 (by omega))
      go_wp2
      go_ret
      exact ⟨ret_i64 HR.out.symm, rfl⟩

set_option maxRecDepth 20000 in
set_option maxHeartbeats 1600000 in
theorem implInCmp (a b : DIn) (ha : oks a.cells) (hb : oks b.cells) (ua ub : List Value) (w : World) (hsa : Ins w a.cells ua) (hsb : Ins w b.cells ub) :
    Calls Tryd.prog 111 #[.agg ua.toArray, .agg ub.toArray] w fun e w' => e = .returned (.int .i64 (inCmpI a b)) ∧ Below w.heap.size w w' := by
  obtain ⟨Aa0, ca0, Aa1, ca1, rfl, ha0, ha1⟩ := DIn.view hsa
  obtain ⟨Ab0, cb0, Ab1, cb1, rfl, hb0, hb1⟩ := DIn.view hsb
  obtain ⟨wa, hwa⟩ : ∃ wa, w.alloc (.cells #[.slice Aa0 a.drv.length ca0, .slice Aa1 a.out.length ca1] 103) = wa := ⟨_, rfl⟩
  have baa : Below w.heap.size w wa := by rw [← hwa]; exact (Below.refl _ _).alloc (Nat.le_refl _) _
  have bxa : Box wa w.heap.size 103 [.slice Aa0 a.drv.length ca0, .slice Aa1 a.out.length ca1] := by rw [← hwa]; exact Box.new w _ _
  obtain ⟨wb, hwb⟩ : ∃ wb, wa.alloc (.cells #[.slice Ab0 b.drv.length cb0, .slice Ab1 b.out.length cb1] 103) = wb := ⟨_, rfl⟩
  have bab : Below wa.heap.size wa wb := by rw [← hwb]; exact (Below.refl _ _).alloc (Nat.le_refl _) _
  have bxb : Box wb wa.heap.size 103 [.slice Ab0 b.drv.length cb0, .slice Ab1 b.out.length cb1] := by rw [← hwb]; exact Box.new wa _ _
  have bel : Below w.heap.size w wb := baa.trans (bab.mono baa.size)
  have bxa2 := bxa.step bab
  have x0 := bxa2.cell (j := 0) rfl
  have x1 := bxa2.cell (j := 1) rfl
  have z0 := bxb.cell (j := 0) rfl
  have z1 := bxb.cell (j := 1) rfl
  have HC1 := hide (fun W (hW : Below w.heap.size w W) => compare a.drv b.drv _ _ W (ha0.step hW).rd (hb0.step hW).rd)
  have HC2 := hide (fun W (hW : Below w.heap.size w W) => compare a.out b.out _ _ W (ha1.step hW).rd (hb1.step hW).rd)
  have HBE := hide (bel.drew)
  have hdf : inCmpI a b = (if cmpI a.drv b.drv = 0 then cmpI a.out b.out else cmpI a.drv b.drv) := rfl
  have HDF := hide hdf
  have HS : Hid (∀ W, Below wb.heap.size wb W → W.cell? ⟨w.heap.size, 0, none⟩ = some (.slice Aa0 a.drv.length ca0) ∧ W.cell? ⟨w.heap.size, 1, none⟩ = some (.slice Aa1 a.out.length ca1) ∧ W.cell? ⟨wa.heap.size, 0, none⟩ = some (.slice Ab0 b.drv.length cb0) ∧ W.cell? ⟨wa.heap.size, 1, none⟩ = some (.slice Ab1 b.out.length cb1)) :=
    hide (fun W hb => ⟨(bxa2.step hb).cell (j := 0) rfl, (bxa2.step hb).cell (j := 1) rfl, (bxb.step hb).cell (j := 0) rfl, (bxb.step hb).cell (j := 1) rfl⟩)
  obtain ⟨X, hX⟩ : ∃ X, cmpI a.drv b.drv = X := ⟨_, rfl⟩
  obtain ⟨Y, hY⟩ : ∃ X, cmpI a.out b.out = X := ⟨_, rfl⟩
  rw [hX, hY] at HDF
  rw [hX] at HC1
  rw [hY] at HC2
  obtain ⟨wk, hwk⟩ : ∃ W, wb.alloc (.cells #[.int .i64 X, .int .i64 Y] 3) = W := ⟨_, rfl⟩
  have hbk := Box.new wb [.int .i64 X, .int .i64 Y] 3
  rw [hwk] at hbk
  have HBK := hide (show Below wb.heap.size wb wk.drew by rw [← hwk]; exact ((Below.refl _ _).alloc (Nat.le_refl _) _).drew)
  have hor := cmpOr2 X Y wb.heap.size wk.drew (hbk.cell (j := 0) rfl) (hbk.cell (j := 1) rfl)
  obtain ⟨Z, hZ⟩ : ∃ Z, (if X = 0 then Y else X) = Z := ⟨_, rfl⟩
  rw [hZ] at hor HDF
  have HOR := hide hor
  clear hor hZ
  have HBR := hide (show Below wb.heap.size wb wb.drew from (Below.refl _ _).drew)
  have HBF := hide (bel.trans (HBK.out.mono bel.size))
  clear hX hY hdf bxa bxb bxa2 ha0 ha1 hb0 hb1 baa bab bel hsa hsb hbk
  go_enter Tryd.func111, Tryd.ntmps111
  go_wp2_with fail
  go_region_held3 (fun W => W.cell? ⟨w.heap.size, 0, none⟩ = some (.slice Aa0 a.drv.length ca0) ∧ W.cell? ⟨w.heap.size, 1, none⟩ = some (.slice Aa1 a.out.length ca1) ∧ W.cell? ⟨wa.heap.size, 0, none⟩ = some (.slice Ab0 b.drv.length cb0) ∧ W.cell? ⟨wa.heap.size, 1, none⟩ = some (.slice Ab1 b.out.length cb1))
    (first
      | exact HS.out _ HBK.out
      | exact HS.out _ HBR.out
      | go_keep)
    (first
      | (go_simp; go_at_call 100; (with_reducible refine (HC1.out _ HBE.out).mono ?_); rintro e w8 ⟨rfl, rfl⟩)
      | (go_simp; go_at_call 100; (with_reducible refine (HC2.out _ HBE.out).mono ?_); rintro e w8 ⟨rfl, rfl⟩)
      | (go_simp; go_at_call 126; refine HOR.out.mono ?_; rintro e w8 ⟨rfl, rfl⟩))
  all_goals
    go_wp2
    go_ret
    exact ⟨ret_i64 HDF.out.symm, HBF.out⟩

theorem implInOk (a : DIn) (ha : oks a.cells) (hl : a.drv.length ≤ 1048576) (ua : List Value) (w : World) (hsa : Ins w a.cells ua) :
    Calls Tryd.prog 110 #[.agg ua.toArray] w fun e w' => e = .returned (.bool (inOkP a)) ∧ Below w.heap.size w w' := by
  obtain ⟨Aa0, ca0, Aa1, ca1, rfl, ha0, ha1⟩ := DIn.view hsa
  obtain ⟨oa0, oa1⟩ := (DIn.oks_iff a).1 ha
  obtain ⟨wa, hwa⟩ : ∃ wa, w.alloc (.cells #[.slice Aa0 a.drv.length ca0, .slice Aa1 a.out.length ca1] 103) = wa := ⟨_, rfl⟩
  have baa : Below w.heap.size w wa := by rw [← hwa]; exact (Below.refl _ _).alloc (Nat.le_refl _) _
  have bxa : Box wa w.heap.size 103 [.slice Aa0 a.drv.length ca0, .slice Aa1 a.out.length ca1] := by rw [← hwa]; exact Box.new w _ _
  have x0 := bxa.cell (j := 0) rfl
  have HBA := hide baa
  have HN := hide (implNameOk a.drv oa0 _ wa (ha0.step baa).rd (by omega))
  have HE := hide (fun W (hW : Below wa.heap.size wa W) => implEntryQ a.out oa1 _ W (ha1.step (baa.trans (hW.mono baa.size))).rd)
  have HX := hide (fun W (hW : Below wa.heap.size wa W) => (bxa.step hW).cell (j := 1) rfl)
  have hdf : inOkP a = (nameOk a.drv && entryOk a.out) := rfl
  have HDF := hide hdf
  generalize nameOk a.drv = X at *
  generalize entryOk a.out = Y at *
  clear hdf bxa ha0 ha1 oa0 oa1 hsa baa
  go_enter Tryd.func110, Tryd.ntmps110
  cases X <;> cases Y
  all_goals
    go_wp2_with fail
    refine HN.out.mono ?_
    rintro e w1 ⟨rfl, b1⟩
    have HB1 := hide b1
    have y1 := HX.out w1 b1
    clear b1
    go_wp2_with (go_at_call 99; refine (HE.out _ HB1.out).mono ?_; rintro e w2 ⟨rfl, rfl⟩)
    go_ret
    exact ⟨ret_bool (by rw [HDF.out]; rfl), HBA.out.trans (HB1.out.mono HBA.out.size)⟩

end Go.Proofs.YtigklnokgmcifaaDoor


/-
  The program's Sha256.
-/
namespace Go.Proofs.YtigklnokgmcifaaDoor
open Go.RowKit
set_option linter.unusedVariables false

/-- What comes of the three calls, whatever the two slices are called. -/
theorem shaEnd (l : List Int) (hB : Byt l) (n : Nat) (hn : l.length / 64 = n) (s1 s2 : S8) (m : Nat) (h1 : hashN S0 (l.take (64 * n)) n = s1) (hm : (l.drop (64 * n) ++ tailB l.length).length = 64 * m) (h2 : hashN s1 (l.drop (64 * n) ++ tailB l.length) m = s2) :
    shaL l = outB s2.list := by
  subst hn h1 h2
  rw [shaL_parts, hm]
  congr 3
  omega

set_option maxRecDepth 20000 in
set_option maxHeartbeats 3200000 in
theorem implShaIn (l : List Int) (hB : Byt l) (v : Value) (w : World) (hv : Rd w v (bs l)) (hl : l.length ≤ 100000) (hT : Tab w) :
    Calls Tryd.prog 85 #[v] w fun e w' => ∃ v', e = .returned v' ∧ Own 5 w.heap.size w'.heap.size w' v' (bs (shaL l)) ∧ Below w.heap.size w w' := by
  obtain ⟨A, c, hV, hc1, hc2, hrd⟩ := id hv
  rw [bs_length] at *
  unfold maxLen at hc2
  subst hV
  obtain ⟨n, hn⟩ : ∃ n, l.length / 64 = n := ⟨_, rfl⟩
  obtain ⟨m, hm⟩ : ∃ m, (l.drop (64 * n) ++ tailB l.length).length = 64 * m := ⟨(l.drop (64 * n) ++ tailB l.length).length / 64, by
    have := pad_mod l.length
    rw [List.length_append, List.length_drop]
    omega⟩
  have hmb : m ≤ 10 := by
    have := pad_le l.length
    rw [List.length_append, List.length_drop] at hm
    omega
  obtain ⟨s1, h1⟩ : ∃ s1, hashN S0 (l.take (64 * n)) n = s1 := ⟨_, rfl⟩
  have hs1 : s1.Ok := by rw [← h1]; exact hashN_ok S0_ok _ _
  obtain ⟨s2, h2⟩ : ∃ s2, hashN s1 (l.drop (64 * n) ++ tailB l.length) m = s2 := ⟨_, rfl⟩
  have hs2 : s2.Ok := by rw [← h2]; exact hashN_ok hs1 _ _
  rw [shaEnd l hB n hn s1 s2 m h1 hm h2]
  have hz : zpad (l.drop (64 * n)).length = zpad l.length := by rw [← hn]; exact zpad_rest l
  -- the two slices
  have hA : ∀ v1 W, Rd w v1 (bs (l.take (64 * n))) → At W W.heap.size.pred 135 (wd S0.list) → True := fun _ _ _ _ => trivial
  clear hA
  have ht : (l.take (64 * n)).length = 64 * n := by rw [List.length_take]; omega
  have hd : (l.drop (64 * n)).length = l.length - 64 * n := List.length_drop
  have first : ∀ (v1 : Value) (g : Nat) (w1 : World), Rd w v1 (bs (l.take (64 * n))) → Below w.heap.size w w1 → w.heap.size ≤ g → At w1 g 135 (wd S0.list) →
      Calls Tryd.prog 113 #[.pointer (some ⟨g, 0, none⟩), v1] w1 fun e w2 => (∃ v, e = .returned v) ∧ At w2 g 135 (wd s1.list) ∧ Outside g (g + 1) w1 w2 := fun v1 g w1 hr hb hg hat => by
    have h := mixAll (l.take (64 * n)) (hB.take _) n ht (by omega) S0 S0_ok g v1 w1 (fun W hO => hr.far hb hO hg) hat (hT.step hb) (Nat.lt_of_lt_of_le hT.lt hg)
    rw [h1] at h
    exact h
  have second : ∀ (v2 : Value) (q : Int) (W : World), q = (l.length : Int) → Rd W v2 (bs (l.drop (64 * n))) →
      Calls Tryd.prog 114 #[v2, .int .i64 q] W fun e w' => ∃ v', e = .returned v' ∧ w'.ownsRow W.heap.size 5 1 v' (64 * m) (bs (l.drop (64 * n) ++ tailB l.length)) ∧ Below W.heap.size W w' := fun v2 q W hq hr => by
    subst hq
    have h := padded (l.drop (64 * n)) v2 l.length W hr hl (by rw [hd]; omega) hz
    rw [hm] at h
    exact h
  have third : ∀ (v3 : Value) (g lo : Nat) (W : World), W.ownsRow lo 5 1 v3 (64 * m) (bs (l.drop (64 * n) ++ tailB l.length)) → g < lo → At W g 135 (wd s1.list) → Tab W → w.heap.size ≤ g →
      Calls Tryd.prog 113 #[.pointer (some ⟨g, 0, none⟩), v3] W fun e w2 => (∃ v, e = .returned v) ∧ At w2 g 135 (wd s2.list) ∧ Outside g (g + 1) W w2 := fun v3 g lo W ho hlo hat hT2 hg => by
    have h := mixAll (l.drop (64 * n) ++ tailB l.length) ((hB.drop _).app (tailB_byt _)) m hm (by omega) s1 hs1 g v3 W
      (fun W' hO => ((Own.of ho (by rw [bs_length, hm])).outside hO (.inr hlo)).rd) hat hT2 (Nat.lt_of_lt_of_le hT.lt hg)
    rw [h2] at h
    exact h
  have last : ∀ (g : Nat) (W : World), At W g 135 (wd s2.list) →
      Calls Tryd.prog 115 #[.pointer (some ⟨g, 0, none⟩)] W fun e w' => ∃ v', e = .returned v' ∧ Own 5 W.heap.size w'.heap.size w' v' (bs (outB s2.list)) ∧ Below W.heap.size W w' := fun g W hat =>
    hashSum s2.list rfl (S8.list_32 hs2) g W hat
  have HT := hide hT
  have hdiv : (l.length : Int) / 64 * 64 = ((64 * n : Nat) : Int) := by omega
  have H1 : Hid (∀ k, k = 64 * n → Rd w (.slice A k c) (bs (l.take (64 * n)))) := hide (fun k hk => by
    subst hk
    cases A with
    | none =>
      have h0 : l.length = 0 := by
        rcases Nat.eq_zero_or_pos l.length with h | h
        · exact h
        · obtain ⟨b, off, hA, _⟩ := hrd h
          cases hA
      have e : l.take (64 * n) = [] := by rw [List.eq_nil_of_length_eq_zero h0, List.take_nil]
      rw [e]
      exact Rd.empty (by omega) (by unfold maxLen; omega)
    | some a =>
      rcases Nat.eq_zero_or_pos l.length with h | h
      · have e : l.take (64 * n) = [] := by rw [List.eq_nil_of_length_eq_zero h, List.take_nil]
        rw [e]
        exact Rd.empty (by omega) (by unfold maxLen; omega)
      · obtain ⟨b, off, hA, hblt, hcell⟩ := hrd h
        cases hA
        have hp := Rd.part hcell hblt (k := 0) (n := 64 * n) (by omega) hc1 (by unfold maxLen; omega) rfl
        simpa using hp)
  have H2 : Hid (∀ A2 k c2, k = l.length - 64 * n → (k = 0 ∨ ∃ b off, A = some ⟨b, off, none⟩ ∧ A2 = some ⟨b, off + 64 * n, none⟩) → c2 = c - 64 * n → Rd w (.slice A2 k c2) (bs (l.drop (64 * n)))) := hide (fun A2 k c2 hk hh hc => by
    have e : (l.drop (64 * n)).take (l.length - 64 * n) = l.drop (64 * n) := List.take_of_length_le (by rw [List.length_drop]; omega)
    rcases Nat.eq_zero_or_pos k with h0 | h0
    · have e0 : l.drop (64 * n) = [] := List.drop_eq_nil_of_le (by omega)
      rw [e0]
      exact Rd.empty h0 (by unfold maxLen; omega)
    · rcases hh with h | ⟨b, off, rfl, rfl⟩
      · omega
      · obtain ⟨b2, off2, hA, hblt, hcell⟩ := hrd (by omega)
        cases hA
        have hp := Rd.part hcell hblt (k := 64 * n) (n := l.length - 64 * n) (by omega) hc1 (by unfold maxLen; omega) hk
        rw [e] at hp
        rw [hc]
        exact hp)
  have u0 : (0 : Int) ≤ ((64 * n : Nat) : Int) := by omega
  have u1 : ((64 * n : Nat) : Int) ≤ (l.length : Int) := by omega
  have u2 : ((64 * n : Nat) : Int) ≤ (c : Int) := by omega
  have Z0 : Hid (A = none → l.length = 0) := hide (fun hA => by
    rcases Nat.eq_zero_or_pos l.length with h | h
    · exact h
    · obtain ⟨b, off, hA2, _⟩ := hrd h
      rw [hA] at hA2
      cases hA2)
  have Z1 : Hid (0 < l.length → ∀ a, A = some a → ∃ b off, a = ⟨b, off, none⟩) := hide (fun h a hA => by
    obtain ⟨b, off, hA2, _⟩ := hrd h
    rw [hA] at hA2
    cases hA2
    exact ⟨_, _, rfl⟩)
  have HB := hide hB
  have G1 := hide first
  have G2 := hide second
  have G3 := hide third
  have G4 := hide last
  clear hv hrd hB first second third last hm hmb h1 hs1 h2 hs2 hz ht hd hT
  have hdiv2 : (l.length : Int) / 64 * 64 = 64 * (n : Int) := by omega
  have u3 : 64 * (n : Int) ≤ (l.length : Int) := by omega
  have u4 : 64 * (n : Int) ≤ (c : Int) := by omega
  clear hdiv hn u0 u1 u2
  cases A with
  | none =>
    have hl0 : l.length = 0 := Z0.out rfl
    have hn0 : n = 0 := by omega
    subst hn0
    go_enter Tryd.func85, Tryd.ntmps85
    go_wp2_with (first
      | ((with_reducible refine at_slot 8 ?_); refine wpList_build_as (wd S0.list) rfl _ _ rfl (by kernel_rfl) ?_)
      | ((with_reducible refine at_slot 3 ?_); refine wpList_alloc_zero rfl _ rfl (wd Z8) (by kernel_rfl) ?_; intro w1 at1 b1 z1)
      | ((with_reducible refine at_none ?_); refine wpList_store_all rfl _ _ _ rfl w.heap.size (wd S0.list) rfl rfl _ _ at1 (by kernel_rfl) (by kernel_rfl) (wd_one _) ?_; intro w2 at2 b2 z2 n2; have bw2 := b1.trans (b2 _ (Nat.le_refl _)))
      | (go_at_call 113; (with_reducible refine (G1.out _ w.heap.size w2 (H1.out _ (by omega)) bw2 (Nat.le_refl _) at2).mono ?_); rintro e w3 ⟨⟨v3, rfl⟩, at3, o3⟩; have bw3 := o3.below bw2 (Nat.le_refl _) bw2.size; have t3 := HT.out.step bw3)
      | (go_at_call 114; (with_reducible refine (G2.out _ _ w3 (by omega) (Rd.below (H2.out _ _ _ (by omega) (.inl (by omega)) (by omega)) bw3)).mono ?_); rintro e w4 ⟨v4, rfl, o4, b4⟩; have at4 := at3.step b4; have bw4 := bw3.trans (b4.mono bw3.size))
      | (go_at_call 113; (with_reducible refine (G3.out _ w.heap.size w3.heap.size w4 o4 at3.lt at4 (t3.step b4) (Nat.le_refl _)).mono ?_); rintro e w5 ⟨⟨v5, rfl⟩, at5, o5⟩; have bw5 := o5.below bw4 (Nat.le_refl _) bw4.size)
      | (go_at_call 115; (with_reducible refine (G4.out w.heap.size w5 at5).mono ?_); rintro e w6 ⟨v6, rfl, o6, b6⟩))
    go_ret
    exact ⟨_, rfl, o6.wide bw5.size (Nat.le_refl _) (Nat.le_refl _), bw5.trans (b6.mono bw5.size)⟩
  | some a =>
    by_cases hcw : c = 64 * n
    · subst hcw
      have hll : l.length = 64 * n := by omega
      go_enter Tryd.func85, Tryd.ntmps85
      go_wp2_with (first
        | ((with_reducible refine at_slot 8 ?_); refine wpList_build_as (wd S0.list) rfl _ _ rfl (by kernel_rfl) ?_)
        | ((with_reducible refine at_slot 3 ?_); refine wpList_alloc_zero rfl _ rfl (wd Z8) (by kernel_rfl) ?_; intro w1 at1 b1 z1)
        | ((with_reducible refine at_none ?_); refine wpList_store_all rfl _ _ _ rfl w.heap.size (wd S0.list) rfl rfl _ _ at1 (by kernel_rfl) (by kernel_rfl) (wd_one _) ?_; intro w2 at2 b2 z2 n2; have bw2 := b1.trans (b2 _ (Nat.le_refl _)))
        | (go_at_call 113; (with_reducible refine (G1.out _ w.heap.size w2 (H1.out _ (by omega)) bw2 (Nat.le_refl _) at2).mono ?_); rintro e w3 ⟨⟨v3, rfl⟩, at3, o3⟩; have bw3 := o3.below bw2 (Nat.le_refl _) bw2.size; have t3 := HT.out.step bw3)
        | (go_at_call 114; (with_reducible refine (G2.out _ _ w3 (by omega) (Rd.below (H2.out _ _ _ (by omega) (.inl (by omega)) (by omega)) bw3)).mono ?_); rintro e w4 ⟨v4, rfl, o4, b4⟩; have at4 := at3.step b4; have bw4 := bw3.trans (b4.mono bw3.size))
        | (go_at_call 113; (with_reducible refine (G3.out _ w.heap.size w3.heap.size w4 o4 at3.lt at4 (t3.step b4) (Nat.le_refl _)).mono ?_); rintro e w5 ⟨⟨v5, rfl⟩, at5, o5⟩; have bw5 := o5.below bw4 (Nat.le_refl _) bw4.size)
        | (go_at_call 115; (with_reducible refine (G4.out w.heap.size w5 at5).mono ?_); rintro e w6 ⟨v6, rfl, o6, b6⟩))
      go_ret
      exact ⟨_, rfl, o6.wide bw5.size (Nat.le_refl _) (Nat.le_refl _), bw5.trans (b6.mono bw5.size)⟩
    · rcases Nat.eq_zero_or_pos l.length with hl0 | hl0
      · have hn0 : n = 0 := by omega
        subst hn0
        go_enter Tryd.func85, Tryd.ntmps85
        go_wp2_with (first
          | ((with_reducible refine at_slot 8 ?_); refine wpList_build_as (wd S0.list) rfl _ _ rfl (by kernel_rfl) ?_)
          | ((with_reducible refine at_slot 3 ?_); refine wpList_alloc_zero rfl _ rfl (wd Z8) (by kernel_rfl) ?_; intro w1 at1 b1 z1)
          | ((with_reducible refine at_none ?_); refine wpList_store_all rfl _ _ _ rfl w.heap.size (wd S0.list) rfl rfl _ _ at1 (by kernel_rfl) (by kernel_rfl) (wd_one _) ?_; intro w2 at2 b2 z2 n2; have bw2 := b1.trans (b2 _ (Nat.le_refl _)))
          | (go_at_call 113; (with_reducible refine (G1.out _ w.heap.size w2 (H1.out _ (by omega)) bw2 (Nat.le_refl _) at2).mono ?_); rintro e w3 ⟨⟨v3, rfl⟩, at3, o3⟩; have bw3 := o3.below bw2 (Nat.le_refl _) bw2.size; have t3 := HT.out.step bw3)
          | (go_at_call 114; (with_reducible refine (G2.out _ _ w3 (by omega) (Rd.below (H2.out _ _ _ (by omega) (.inl (by omega)) (by omega)) bw3)).mono ?_); rintro e w4 ⟨v4, rfl, o4, b4⟩; have at4 := at3.step b4; have bw4 := bw3.trans (b4.mono bw3.size))
          | (go_at_call 113; (with_reducible refine (G3.out _ w.heap.size w3.heap.size w4 o4 at3.lt at4 (t3.step b4) (Nat.le_refl _)).mono ?_); rintro e w5 ⟨⟨v5, rfl⟩, at5, o5⟩; have bw5 := o5.below bw4 (Nat.le_refl _) bw4.size)
          | (go_at_call 115; (with_reducible refine (G4.out w.heap.size w5 at5).mono ?_); rintro e w6 ⟨v6, rfl, o6, b6⟩))
        go_ret
        exact ⟨_, rfl, o6.wide bw5.size (Nat.le_refl _) (Nat.le_refl _), bw5.trans (b6.mono bw5.size)⟩
      · obtain ⟨b, off, ha⟩ := Z1.out hl0 a rfl
        subst ha
        go_enter Tryd.func85, Tryd.ntmps85
        go_wp2_with (first
          | ((with_reducible refine at_slot 8 ?_); refine wpList_build_as (wd S0.list) rfl _ _ rfl (by kernel_rfl) ?_)
          | ((with_reducible refine at_slot 3 ?_); refine wpList_alloc_zero rfl _ rfl (wd Z8) (by kernel_rfl) ?_; intro w1 at1 b1 z1)
          | ((with_reducible refine at_none ?_); refine wpList_store_all rfl _ _ _ rfl w.heap.size (wd S0.list) rfl rfl _ _ at1 (by kernel_rfl) (by kernel_rfl) (wd_one _) ?_; intro w2 at2 b2 z2 n2; have bw2 := b1.trans (b2 _ (Nat.le_refl _)))
          | (go_at_call 113; (with_reducible refine (G1.out _ w.heap.size w2 (H1.out _ rfl) bw2 (Nat.le_refl _) at2).mono ?_); rintro e w3 ⟨⟨v3, rfl⟩, at3, o3⟩; have bw3 := o3.below bw2 (Nat.le_refl _) bw2.size; have t3 := HT.out.step bw3)
          | (go_at_call 114; (with_reducible refine (G2.out _ _ w3 (by omega) (Rd.below (H2.out _ _ _ (by omega) (.inr ⟨_, _, rfl, rfl⟩) (by omega)) bw3)).mono ?_); rintro e w4 ⟨v4, rfl, o4, b4⟩; have at4 := at3.step b4; have bw4 := bw3.trans (b4.mono bw3.size))
          | (go_at_call 113; (with_reducible refine (G3.out _ w.heap.size w3.heap.size w4 o4 at3.lt at4 (t3.step b4) (Nat.le_refl _)).mono ?_); rintro e w5 ⟨⟨v5, rfl⟩, at5, o5⟩; have bw5 := o5.below bw4 (Nat.le_refl _) bw4.size)
          | (go_at_call 115; (with_reducible refine (G4.out w.heap.size w5 at5).mono ?_); rintro e w6 ⟨v6, rfl, o6, b6⟩))
        go_ret
        exact ⟨_, rfl, o6.wide bw5.size (Nat.le_refl _) (Nat.le_refl _), bw5.trans (b6.mono bw5.size)⟩

set_option maxHeartbeats 400000 in
theorem implSha (l : List Int) (hB : Byt l) (v : Value) (w : World) (hv : Rd w v (bs l)) (hT : Tab w) :
    Calls Tryd.prog 85 #[v] w fun e w' => ∃ v', e = .returned v' ∧ Own 5 w.heap.size w'.heap.size w' v' (bs (sha256 l)) ∧ Below w.heap.size w w' := by
  by_cases h : 100000 < l.length
  · rw [sha256, if_pos h]
    obtain ⟨A, c, hV, hc1, hc2, _⟩ := id hv
    rw [bs_length] at *
    unfold maxLen at hc2
    subst hV
    clear hv hT
    go_enter Tryd.func85, Tryd.ntmps85
    go_wp2
    go_ret
    exact ⟨_, rfl, Own.of (World.ownsRow_nil _ _ _ _) rfl, Below.refl _ _⟩
  · rw [sha256, if_neg h]
    exact implShaIn l hB v w hv (by omega) hT

end Go.Proofs.YtigklnokgmcifaaDoor
