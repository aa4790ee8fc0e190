/-
  Parts of the proof: RealOfI, RealOfS, RealOfL.
-/
import Derived.Test.YtmhapnlgakkljaaGreatDoorMp43
import Derived.Test.YtmhapnlgakkljaaGreatDoorMp52
import Derived.Test.YtmhapnlgakkljaaGreatDoorMp51
import Derived.Test.YtmhapnlgakkljaaGreatDoorMp0
import Derived.Test.YtmhapnlgakkljaaGreatDoorMp9
import Derived.Laws.BytesArg
import Derived.IntWalk
import Derived.Deep.QuietTactic
import Derived.BigQuiet
import Derived.Deep.Cut
import Derived.Deep.DeepCutAuto
import Derived.Deep.CutBlock
import Derived.Deep.RegionWith
import Derived.Test.YtmhapnlgakkljaaGreatDoorMp37
import Derived.Test.YtmhapnlgakkljaaGreatDoorMp50
import Derived.Test.YtmhapnlgakkljaaGreatDoorMp1

/-
  RealOf: the program.
-/
namespace Go.Proofs.YtmhapnlgakkljaaGreatDoor
open Go.RowKit
set_option linter.unusedVariables false
set_option linter.unusedSimpArgs false

theorem lie_seq0 (w : World) {sz : Nat} (hsz : sz ≤ 64) : Lie w (.seq sz 0 []) (.slice none 0 0) [] := by
  rw [Lie]
  exact ⟨hsz, [], [], ⟨none, 0, rfl, Nat.le_refl _, Nat.zero_le _, by simp, fun h => absurd h (Nat.not_lt_zero _)⟩, lies_nil _, rfl⟩
/-- What placeOfReal finds among the realisations l. -/
def Place (l : List DReal) (Z : Nat → Int) (p : Nat) : Prop := p ≤ l.length ∧ (∀ m, m < p → Z m < 0) ∧ (p < l.length → 0 ≤ Z p)

set_option maxRecDepth 20000 in
set_option maxHeartbeats 3200000 in
theorem placeR (l : List DReal) (t : DReal) (hl : ∀ r ∈ l, oks r.cells) (ht : oks t.cells) (Z : Nat → Int) (hZ : ∀ i (h : i < l.length), Z i = inCmpI (asIn l[i]) (asIn t)) (hmono : ∀ i j, i ≤ j → j < l.length → 0 ≤ Z i → 0 ≤ Z j)
    (mr mo : Option Nat) (Av : Option Addr) (n cv : Nat) (hn : l.length = n) (hn2 : n ≤ 1048576) (ts : List Value) (w : World) (hs : In1 w (seqOf 3 DReal.cells l) (.slice Av n cv)) (htv : Ins w t.cells ts) :
    Calls Tryz.prog 103 #[.agg #[.map mr, .map mo, .slice Av n cv], .agg ts.toArray] w fun e w' => ∃ p : Nat, e = .returned (.tuple #[.int .i64 p, .bool (decide (p < n) && decide (Z p = 0))]) ∧ Place l Z p ∧ Below w.heap.size w w' := by
  have hsx := fun W (hb : Below w.heap.size w W) => htv.step hb
  obtain ⟨T0, e0, T1, e1, T2, e2, rfl, t0, t1, t2⟩ := DReal.view htv
  obtain ⟨M0, hM0⟩ : ∃ x, t.drv.length = x := ⟨_, rfl⟩
  obtain ⟨M1, hM1⟩ : ∃ x, t.out.length = x := ⟨_, rfl⟩
  obtain ⟨M2, hM2⟩ : ∃ x, t.path.length = x := ⟨_, rfl⟩
  rw [hM0, hM1, hM2] at hsx
  simp only [hM0, hM1, hM2]
  obtain ⟨wz, hwz⟩ : ∃ wz, w.alloc (.cells #[.map mr, .map mo, .slice Av n cv] 78) = wz := ⟨_, rfl⟩
  have bz : Below w.heap.size w wz := by rw [← hwz]; exact (Below.refl _ _).alloc (Nat.le_refl _) _
  have bxz : Box wz w.heap.size 78 [.map mr, .map mo, .slice Av n cv] := by rw [← hwz]; exact Box.new w _ _
  obtain ⟨wa, hwa⟩ : ∃ wa, wz.alloc (.cells #[.slice T0 M0 e0, .slice T1 M1 e1, .slice T2 M2 e2] 66) = wa := ⟨_, rfl⟩
  have ba : Below wz.heap.size wz wa := by rw [← hwa]; exact (Below.refl _ _).alloc (Nat.le_refl _) _
  have bx : Box wa wz.heap.size 66 [.slice T0 M0 e0, .slice T1 M1 e1, .slice T2 M2 e2] := by rw [← hwa]; exact Box.new wz _ _
  have baw := bz.trans (ba.mono bz.size)
  have y2 := (bxz.step ba).cell (j := 2) rfl
  have x0 := bx.cell (j := 0) rfl
  have x1 := bx.cell (j := 1) rfl
  have x2 := bx.cell (j := 2) rfl
  have HC := hide (searchR l t hl ht Z hZ hmono Av n cv hn hn2 _ wa (hs.step baw) (hsx wa baw))
  have HBA := hide baw
  have HN := hide hn
  clear bz bxz ba bx baw hsx htv hs hl ht hZ hmono hn t0 t1 t2 hM0 hM1 hM2
  go_enter Tryz.func103, Tryz.ntmps103
  go_wp2_with fail
  refine HC.out.mono ?_
  rintro e w1 ⟨p, rfl, p1, p2, p3, b1⟩
  have HB1 := hide (HBA.out.trans (b1.mono HBA.out.size))
  have HP := hide (show Place l Z p from ⟨by rw [HN.out]; exact p1, p2, fun h => p3 (by rw [← HN.out]; exact h)⟩)
  clear p1 p2 p3 b1 x0 x1 x2 y2
  obtain ⟨R, hR⟩ : ∃ R, (decide (p < n) && decide (Z p = 0)) = R := ⟨_, rfl⟩
  rw [hR]
  have HR := hide hR
  clear hR
  go_wp2_with fail
  go_ret2
  exact ⟨p, by rw [HR.out] <;> rfl, HP.out, HB1.out⟩

set_option maxRecDepth 20000 in
set_option maxHeartbeats 3200000 in
theorem pathR (l : List DReal) (d o : List Int) (hl : ∀ r ∈ l, oks r.cells) (hd : Byt d) (ho : Byt o) (Z : Nat → Int) (hZ : ∀ i (h : i < l.length), Z i = inCmpI (asIn l[i]) (asIn (keyD d o))) (hmono : ∀ i j, i ≤ j → j < l.length → 0 ≤ Z i → 0 ≤ Z j)
    (mr mo : Option Nat) (Av : Option Addr) (n cv : Nat) (hn : l.length = n) (hn2 : n ≤ 1048576) (hpl : ∀ r ∈ l, r.path.length ≤ 1048576) (vd vo : Value) (w : World) (hs : In1 w (seqOf 3 DReal.cells l) (.slice Av n cv)) (hvd : In1 w (raw d) vd) (hvo : In1 w (raw o) vo) :
    Calls Tryz.prog 65 #[.agg #[.map mr, .map mo, .slice Av n cv], vd, vo] w fun e w' => ∃ (p : Nat) (r : Value) (J : List Nat), e = .returned (.tuple #[r, .bool (decide (p < n) && decide (Z p = 0))]) ∧ Place l Z p ∧ Lie w' (raw (if h : p < l.length ∧ Z p = 0 then (l[p]'h.1).path else [])) r J ∧ Fresh w.heap.size w' J ∧ Below w.heap.size w w' := by
  obtain ⟨Ad, cd, rfl, -, -, -⟩ := id hvd.rd
  obtain ⟨Ao, co, rfl, -, -, -⟩ := id hvo.rd
  rw [bs_length] at hvd hvo ⊢
  rw [bs_length]
  obtain ⟨wa, hwa⟩ : ∃ wa, w.alloc (.cells #[.map mr, .map mo, .slice Av n cv] 78) = wa := ⟨_, rfl⟩
  have ba : Below w.heap.size w wa := by rw [← hwa]; exact (Below.refl _ _).alloc (Nat.le_refl _) _
  have bx : Box wa w.heap.size 78 [.map mr, .map mo, .slice Av n cv] := by rw [← hwa]; exact Box.new w _ _
  have x0 := bx.cell (j := 0) rfl
  have x1 := bx.cell (j := 1) rfl
  have x2 := bx.cell (j := 2) rfl
  have hin0 : In1 wa (raw ([] : List Int)) (.slice none 0 0) := in1_nil wa
  have hc := placeR l (keyD d o) hl (keyD_ok hd ho) Z hZ hmono mr mo Av n cv hn hn2 _ wa (hs.step ba) (DReal.lay (x := keyD d o) (hvd.step ba) (hvo.step ba) hin0)
  have HC := hide hc
  have HX := hide (fun W (hb : Below wa.heap.size wa W) => (bx.step hb))
  have HBA := hide ba
  have HN := hide hn
  have HS := hide hs
  have HPL := hide hpl
  clear bx ba hvd hvo hs hl hZ hmono hn hc hin0 hpl
  go_enter Tryz.func65, Tryz.ntmps65
  go_wp2_with fail
  refine HC.out.mono ?_
  rintro e w1 ⟨p, rfl, hp, b1⟩
  have HB1 := hide (HBA.out.trans (b1.mono HBA.out.size))
  have HZ1 := hide b1
  have HP := hide hp
  clear b1 x0 x1 x2 HC hp
  by_cases hf : p < n ∧ Z p = 0
  · have hpl : p < l.length := by rw [HN.out]; exact hf.1
    have hR : (decide (p < n) && decide (Z p = 0)) = true := by rw [decide_eq_true hf.1, decide_eq_true hf.2]; rfl
    rw [hR]
    have y2 := (HX.out w1 HZ1.out).cell (j := 2) rfl
    obtain ⟨b, of, cc, B0, d0, B1, d1, B2, d2, -, e, lb, q0, q1, q2, i0, i1, i2⟩ := DReal.elem HS.out HB1.out hpl
    obtain rfl := e rfl
    have hlp := HPL.out _ (List.getElem_mem hpl)
    have HCL := hide (clone (l[p]).path (.slice B2 (l[p]).path.length d2) w1 (i2.step HB1.out).rd (by omega))
    have HIF := hide (show (if h : p < l.length ∧ Z p = 0 then (l[p]'h.1).path else []) = (l[p]).path from dif_pos ⟨hpl, hf.2⟩)
    have HRR := hide hR
    have k1 : (p : Int) < (n : Int) := by have := hf.1; omega
    have k0 : (0 : Int) ≤ (p : Int) := by omega
    have k2_ : (p : Int).toNat = p := by omega
    have hp1 := hf.1
    obtain ⟨L2, hL2⟩ : ∃ x, (l[p]).path.length = x := ⟨_, rfl⟩
    rw [hL2] at q2 HCL
    have HL2 := hide hL2
    clear hf hR i0 i1 i2 hlp q0 q1 hL2
    go_wp2_with fail
    refine HCL.out.mono ?_
    rintro e w2 ⟨r, rfl, own, b2⟩
    have HB2 := hide (HB1.out.trans (b2.mono HB1.out.size))
    have HO := hide own
    have hlo := HB1.out.size
    clear own b2
    go_wp2_with fail
    go_ret2
    obtain ⟨J, j1, j2⟩ := own_freshR (l := (l[p]).path) (by rw [HL2.out]; exact HO.out)
    exact ⟨p, r, J, by rw [HRR.out] <;> rfl, HP.out, by rw [HIF.out]; exact j1, j2.base hlo, HB2.out⟩
  · have hR : (decide (p < n) && decide (Z p = 0)) = false := by
      rw [Bool.eq_false_iff]
      intro h
      rw [Bool.and_eq_true, decide_eq_true_eq, decide_eq_true_eq] at h
      exact hf h
    rw [hR]
    have HIF := hide (show (if h : p < l.length ∧ Z p = 0 then (l[p]'h.1).path else []) = [] from dif_neg (by rw [HN.out]; exact hf))
    have HRR := hide hR
    clear hf hR
    go_wp2_with fail
    go_ret2
    exact ⟨p, _, [], by rw [HRR.out] <;> rfl, HP.out, by rw [HIF.out]; exact lie_nilR _, Fresh.nil _ _, HB1.out⟩

theorem realOf_no {s : DStore} {d o : List Int} (h : storeOk s = false) : realOf s d o = none := by rw [realOf, h]; rfl
theorem realOf_yes {s : DStore} {d o : List Int} (h : storeOk s = true) : realOf s d o = realOfL s.reals d o := by rw [realOf, h]; rfl
set_option maxRecDepth 20000 in
set_option maxHeartbeats 3200000 in
theorem implRealOf (s : DStore) (d o : List Int) (hd : Byt d) (ho : Byt o) (hok : oks s.cells) (hbk : bulks s.cells ≤ 1048576) (us : List Value) (vd vo : Value) (w : World) (hs : Ins w s.cells us) (hvd : In1 w (raw d) vd) (hvo : In1 w (raw o) vo) (hTb : Tab w) :
    Calls Tryz.prog 30 #[.agg us.toArray, vd, vo] w fun e w' => ∃ r J, e = .returned (.tuple #[r, .bool (realOf s d o).isSome]) ∧ Lie w' (raw (pathP (realOf s d o))) r J ∧ Fresh w.heap.size w' J ∧ Below w.heap.size w w' := by
  have hsx := hs
  have hbl := bulk_Store s
  have hpl : ∀ r ∈ s.reals, r.path.length ≤ 1048576 := fun r hr => by
    have h1 := bulks_mem (f := DReal.cells) hr
    have h2 := bulk_Real r
    omega
  have hok3 := ((DStore.oks_iff s).1 hok).2.2
  obtain ⟨A0, c0, A1, c1, A2, c2, rfl, h0, h1, h2⟩ := DStore.view hs
  obtain ⟨wa, hwa⟩ : ∃ wa, w.alloc (.cells #[.slice A0 s.objs.length c0, .slice A1 s.roots.length c1, .slice A2 s.reals.length c2] 32) = wa := ⟨_, rfl⟩
  have ba : Below w.heap.size w wa := by rw [← hwa]; exact (Below.refl _ _).alloc (Nat.le_refl _) _
  have bx : Box wa w.heap.size 32 [.slice A0 s.objs.length c0, .slice A1 s.roots.length c1, .slice A2 s.reals.length c2] := by rw [← hwa]; exact Box.new w _ _
  have hz : w.heap.size < wa.heap.size := bx.lt
  have x0 := bx.cell (j := 0) rfl
  have x1 := bx.cell (j := 1) rfl
  have x2 := bx.cell (j := 2) rfl
  have HBA := hide ba
  have HVD := hide hvd
  have HVO := hide hvo
  have HOP := hide (implOpen s hok hbk _ wa (hsx.step ba) (hTb.step ba))
  have HK := hide hok
  clear bx ba hok hbk hs hsx hTb h0 h1 h2 hvd hvo hbl
  go_enter Tryz.func30, Tryz.ntmps30
  go_wp2_with fail
  refine HOP.out.mono ?_
  rintro e w1 ⟨mr, mo, Av, nv, cv, rfl, b1, hst, hno⟩
  have HB1 := hide (HBA.out.trans (b1.mono HBA.out.size))
  obtain ⟨w2, hw2⟩ : ∃ W, w1.alloc (.cells #[.map mr, .map mo, .slice Av nv cv] 78) = W := ⟨_, rfl⟩
  have b2 : Below w1.heap.size w1 w2 := by rw [← hw2]; exact (Below.refl _ _).alloc (Nat.le_refl _) _
  have bx2 : Box w2 w1.heap.size 78 [.map mr, .map mo, .slice Av nv cv] := by rw [← hw2]; exact Box.new w1 _ _
  have u0_ := bx2.cell (j := 0) rfl
  have u1_ := bx2.cell (j := 1) rfl
  have u2_ := bx2.cell (j := 2) rfl
  have HB2 := hide (HB1.out.trans (b2.mono HB1.out.size))
  have hcall : Calls Tryz.prog 65 #[.agg #[.map mr, .map mo, .slice Av nv cv], vd, vo] w2 fun e w' => ∃ r J, e = .returned (.tuple #[r, .bool (realOf s d o).isSome]) ∧ Lie w' (raw (pathP (realOf s d o))) r J ∧ Fresh w2.heap.size w' J ∧ Below w2.heap.size w2 w' := by
    cases hb : storeOk s with
    | false =>
      obtain ⟨-, -, rfl, rfl, rfl⟩ := hno hb
      rw [realOf_no hb]
      refine (pathR [] d o (fun r h => by cases h) hd ho (fun _ => 0) (fun i h => absurd h (Nat.not_lt_zero _)) (fun i j _ h => absurd h (Nat.not_lt_zero _)) mr mo none 0 0 rfl (by omega) (fun r h => by cases h) vd vo w2 ⟨[], lie_seq0 w2 (by omega)⟩ (HVD.out.step HB2.out) (HVO.out.step HB2.out)).mono ?_
      rintro e w' ⟨p, r, J, rfl, hp, h1, h2, h3⟩
      exact ⟨r, J, rfl, h1, h2, h3⟩
    | true =>
      have hro := ((storeOk_iff s).1 hb).2.2.2.2.2.2
      have hr2 := (hst hb).reals
      have hlen9 : s.reals.length = nv := by
        obtain ⟨F9, hF9⟩ := hr2
        obtain ⟨A9, c9, e9, -, -⟩ := Lie.form hF9
        injection e9 with e1 e2 e3
        exact e2.symm
      rw [realOf_yes hb]
      refine (pathR s.reals d o hok3 hd ho (cmpAt s d o) (fun i h => cmpAt_eq h) (fun i j h1 h2 h3 => cmpAt_mono HK.out hro hd ho h1 h2 h3) mr mo Av nv cv hlen9 (by have := ((storeOk_iff s).1 hb).2.1; omega) hpl vd vo w2 (hr2.step b2) (HVD.out.step HB2.out) (HVO.out.step HB2.out)).mono ?_
      rintro e w' ⟨p, r, J, rfl, ⟨p1, p2, p3⟩, h1, h2, h3⟩
      obtain ⟨f1, f2⟩ := found_real HK.out hro hd ho p1 p2 p3
      refine ⟨r, J, by rw [f1, hlen9], ?_, h2, h3⟩
      by_cases hf : p < s.reals.length ∧ cmpAt s d o p = 0
      · rw [dif_pos hf] at h1
        rw [f2 hf.1 hf.2]
        exact h1
      · rw [dif_neg hf] at h1
        have : (realOfL s.reals d o).isSome = false := by
          rw [f1, Bool.eq_false_iff]
          intro h
          rw [Bool.and_eq_true, decide_eq_true_eq, decide_eq_true_eq] at h
          exact hf h
        have h0 : realOfL s.reals d o = none := by
          cases hx : realOfL s.reals d o with
          | none => rfl
          | some y => rw [hx] at this; cases this
        rw [h0]
        exact h1
  have HC := hide hcall
  have hlo := HB2.out.size
  clear b1 b2 bx2 x0 x1 x2 HOP hst hno hcall hpl hok3
  obtain ⟨R, hR⟩ : ∃ R, (realOf s d o).isSome = R := ⟨_, rfl⟩
  rw [hR] at HC
  have HR := hide hR
  clear hR
  go_wp2_with fail
  refine HC.out.mono ?_
  rintro e w3 ⟨r, J, rfl, j1, j2, b3⟩
  have HB3 := hide (HB2.out.trans (b3.mono HB2.out.size))
  have HJ := hide j1
  have HF := hide j2
  clear b3 j1 j2
  go_wp2_with fail
  go_ret2
  exact ⟨r, J, by rw [HR.out] <;> rfl, HJ.out, HF.out.base hlo, HB3.out⟩

end Go.Proofs.YtmhapnlgakkljaaGreatDoor


/-
  RealOf: the model.
-/
namespace Go.Proofs.YtmhapnlgakkljaaGreatDoor
open Go.RowKit
set_option linter.unusedVariables false
set_option linter.unusedSimpArgs false


set_option maxRecDepth 20000 in
set_option maxHeartbeats 3200000 in
theorem specReal (s : DStore) (d o : List Int) (hd : Byt d) (ho : Byt o) (hok : oks s.cells) (hL : s.reals.length ≤ 1048576) (us : List Value) (vd vo : Value) (w : World) (hs : Ins w s.cells us) (hvd : In1 w (raw d) vd) (hvo : In1 w (raw o) vo) :
    Calls Tryz.prog 64 #[.agg us.toArray, vd, vo] w fun e w' => ∃ v, e = .returned (.tuple #[v, .bool (realOfL s.reals d o).isSome]) ∧ In1 w' (raw (pathP (realOfL s.reals d o))) v ∧ Below w.heap.size w w' := by
  obtain ⟨A0, c0, A1, c1, A2, c2, rfl, h0, h1, h2⟩ := DStore.view hs
  obtain ⟨wa, hwa⟩ : ∃ wa, w.alloc (.cells #[.slice A0 s.objs.length c0, .slice A1 s.roots.length c1, .slice A2 s.reals.length c2] 32) = wa := ⟨_, rfl⟩
  have ba : Below w.heap.size w wa := by rw [← hwa]; exact (Below.refl _ _).alloc (Nat.le_refl _) _
  have bx : Box wa w.heap.size 32 [.slice A0 s.objs.length c0, .slice A1 s.roots.length c1, .slice A2 s.reals.length c2] := by rw [← hwa]; exact Box.new w _ _
  have hz : w.heap.size < wa.heap.size := bx.lt
  obtain ⟨ok1, ok2, ok3⟩ := (DStore.oks_iff s).1 hok
  obtain ⟨N, hN⟩ : ∃ N, s.reals.length = N := ⟨_, rfl⟩
  rw [hN] at hL h2 bx hwa
  have HX := hide (fun W (hb : Below wa.heap.size wa W) => (bx.step hb))
  have HBA := hide ba
  have HVD := hide hvd
  have HVO := hide hvo
  have H2 := hide h2
  have HNL := hide hN
  clear bx ba hok h0 h1 h2 hs hvd hvo
  simp only [hN]
  clear hN
  go_enter Tryz.func64, Tryz.ntmps64
  go_wp2
  go_loopw [8] (fun kv wr => ∃ j : Nat, j ≤ N ∧ kv = .int .i64 j ∧ Hid (∀ m (hm : m < j) (hm2 : m < s.reals.length), keyIs s.reals[m] d o = false) ∧ Hid (Below wa.heap.size wa wr)) (fun kv _ => N - (intOf kv).toNat)
  case atStart => exact ⟨0, Nat.zero_le _, rfl, hide (fun m hm => by omega), hide (Below.refl _ _)⟩
  case round =>
    obtain ⟨j, hj, rfl, HQQ, HB⟩ := hrel
    have y2 := (HX.out wr HB.out).cell (j := 2) rfl
    by_cases hlt : j < N
    · have hjn : j < s.reals.length := by rw [HNL.out]; exact hlt
      have r1 : (j : Int) < (N : Int) := by omega
      have t0 : (0 : Int) ≤ (j : Int) := by omega
      have t2 : (j : Int).toNat = j := by omega
      have hbw := HBA.out.trans (HB.out.mono HBA.out.size)
      obtain ⟨br, orr, ccr, B0, d0, B1, d1, B2, d2, -, er, lr, q0, q1, q2, i0, i1, i2⟩ := DReal.elem H2.out hbw hjn
      obtain rfl := er rfl
      obtain ⟨ro0, ro1, ro2⟩ := (DReal.oks_iff _).1 (ok3 _ (List.getElem_mem hjn))
      have p0 : ∀ m, Rd (wr.drewN m) (.slice B0 (s.reals[j]).drv.length d0) (bs (s.reals[j]).drv) := fun m => (i0.step hbw).rd
      have p1 : ∀ m, Rd (wr.drewN m) (.slice B1 (s.reals[j]).out.length d1) (bs (s.reals[j]).out) := fun m => (i1.step hbw).rd
      have p2 : ∀ m, Rd (wr.drewN m) vd (bs d) := fun m => (HVD.out.step hbw).rd
      have p3 : ∀ m, Rd (wr.drewN m) vo (bs o) := fun m => (HVO.out.step hbw).rd
      have cw0 := fun m => conv_rd (P := Tryz.prog) Tryz.underlying36 Tryz.underlying5 Tryz.underlying9 (p0 m)
      have cw1 := fun m => conv_rd (P := Tryz.prog) Tryz.underlying36 Tryz.underlying5 Tryz.underlying9 (p1 m)
      have cw2 := fun m => conv_rd (P := Tryz.prog) Tryz.underlying36 Tryz.underlying5 Tryz.underlying9 (p2 m)
      have cw3 := fun m => conv_rd (P := Tryz.prog) Tryz.underlying36 Tryz.underlying5 Tryz.underlying9 (p3 m)
      have cv0 := cw0 0
      have cv1 := cw1 0
      have cv2 := cw2 0
      have cv3 := cw3 0
      have hs1 := str_eq ro0 hd
      have hs2 := str_eq ro1 ho
      have hkey : keyIs s.reals[j] d o = (decide ((s.reals[j]).drv = d) && decide ((s.reals[j]).out = o)) := rfl
      have HFI := hide (fun h => realOf_first hjn h (fun m hm => HQQ.out m hm (by omega)))
      have HI2 := hide (fun W (hb : Below wr.heap.size wr W) => (i2.step (hbw.trans (hb.mono hbw.size))))
      generalize decide ((s.reals[j]).drv = d) = X1 at *
      generalize decide ((s.reals[j]).out = o) = X2 at *
      have HKEY := hide hkey
      generalize strOfNums (s.reals[j]).drv = s1 at *
      generalize strOfNums (s.reals[j]).out = s2 at *
      generalize strOfNums d = s3 at *
      generalize strOfNums o = s4 at *
      obtain ⟨L0, hL0⟩ : ∃ x, (s.reals[j]).drv.length = x := ⟨_, rfl⟩
      obtain ⟨L1, hL1⟩ : ∃ x, (s.reals[j]).out.length = x := ⟨_, rfl⟩
      obtain ⟨L2, hL2⟩ : ∃ x, (s.reals[j]).path.length = x := ⟨_, rfl⟩
      rw [hL0] at q0 cw0 cv0
      rw [hL1] at q1 cw1 cv1
      rw [hL2] at q2 HI2
      clear p0 p1 p2 p3 ro0 ro1 ro2 i0 i1 i2 hbw hkey hL0 hL1 hL2
      cases X1 with
      | false =>
        have HKN := hide (show keyIs s.reals[j] d o = false by rw [HKEY.out]; rfl)
        go_upto_region 4 with (fail)
        go_quiet (fail)
        go_wp2
        go_roundw
        case rel => exact ⟨j + 1, by omega, by go_num, hide (fun m hm hm2 => by
          rcases Nat.lt_or_ge m j with h | h
          · exact HQQ.out m h hm2
          · obtain rfl : m = j := by omega
            exact HKN.out), hide (below_drewN HB.out _)⟩
        case measure => simp [intOf]; omega
      | true =>
        cases X2 with
        | false =>
          have HKN := hide (show keyIs s.reals[j] d o = false by rw [HKEY.out]; rfl)
          go_upto_region 4 with (fail)
          go_quiet (fail)
          go_wp2
          go_roundw
          case rel => exact ⟨j + 1, by omega, by go_num, hide (fun m hm hm2 => by
            rcases Nat.lt_or_ge m j with h | h
            · exact HQQ.out m h hm2
            · obtain rfl : m = j := by omega
              exact HKN.out), hide (below_drewN HB.out _)⟩
          case measure => simp [intOf]; omega
        | true =>
          have HKN := hide (HFI.out (by rw [HKEY.out]; rfl))
          go_upto_region 4 with (fail)
          go_quiet (fail)
          go_wp2
          go_ret2
          exact ⟨_, by rw [HKN.out]; rfl, by rw [HKN.out]; exact HI2.out _ (below_drewN (Below.refl _ _) _), HBA.out.trans ((below_drewN HB.out _).mono HBA.out.size)⟩
    · obtain rfl : j = N := by omega
      have HR := hide (show realOfL s.reals d o = none from realOf_none fun m hm => HQQ.out m (by rw [← HNL.out]; exact hm) hm)
      go_wp2
      go_ret2
      exact ⟨_, by rw [HR.out]; rfl, by rw [HR.out]; exact ⟨_, lie_nilR _⟩, HBA.out.trans (HB.out.mono HBA.out.size)⟩

set_option maxRecDepth 20000 in
set_option maxHeartbeats 3200000 in
theorem specRealOf (s : DStore) (d o : List Int) (hd : Byt d) (ho : Byt o) (hok : oks s.cells) (hbk : bulks s.cells ≤ 1048576) (us : List Value) (vd vo : Value) (w : World) (hs : Ins w s.cells us) (hvd : In1 w (raw d) vd) (hvo : In1 w (raw o) vo) :
    Calls Tryz.prog 29 #[.agg us.toArray, vd, vo] w fun e w' => ∃ r J, e = .returned (.tuple #[r, .bool (realOf s d o).isSome]) ∧ Lie w' (raw (pathP (realOf s d o))) r J ∧ Fresh w.heap.size w' J ∧ Below w.heap.size w w' := by
  obtain ⟨i8, hi8, hz80, hz81, hz82⟩ := info_parts u8info
  have hsx := hs
  have hbl := bulk_Store s
  have hpl := pathP_len (d := d) (o := o) hbk
  obtain ⟨A0, c0, A1, c1, A2, c2, rfl, h0, h1, h2⟩ := DStore.view hs
  obtain ⟨wa, hwa⟩ : ∃ wa, w.alloc (.cells #[.slice A0 s.objs.length c0, .slice A1 s.roots.length c1, .slice A2 s.reals.length c2] 32) = wa := ⟨_, rfl⟩
  have ba : Below w.heap.size w wa := by rw [← hwa]; exact (Below.refl _ _).alloc (Nat.le_refl _) _
  have bx : Box wa w.heap.size 32 [.slice A0 s.objs.length c0, .slice A1 s.roots.length c1, .slice A2 s.reals.length c2] := by rw [← hwa]; exact Box.new w _ _
  have hz : w.heap.size < wa.heap.size := bx.lt
  have x0 := bx.cell (j := 0) rfl
  have x1 := bx.cell (j := 1) rfl
  have x2 := bx.cell (j := 2) rfl
  have HX := hide (fun W (hb : Below wa.heap.size wa W) => (bx.step hb))
  have HBA := hide ba
  have HOK := hide (specStoreOk s hok hbk _ wa (hsx.step ba))
  have HRL := hide (fun W (hb : Below w.heap.size w W) => specReal s d o hd ho hok (by omega) _ vd vo W (hsx.step hb) (hvd.step hb) (hvo.step hb))
  have HO := hide (show realOf s d o = if storeOk s then realOfL s.reals d o else none from rfl)
  have HPL := hide hpl
  obtain ⟨T, hT⟩ : ∃ T, storeOk s = T := ⟨_, rfl⟩
  rw [hT] at HOK HO
  clear bx ba hok hbk hs hsx h0 h1 h2 hT hbl hvd hvo hpl
  go_enter Tryz.func29, Tryz.ntmps29
  go_wp2_with fail
  refine HOK.out.mono ?_
  rintro e w1 ⟨rfl, b1⟩
  have HB1 := hide (HBA.out.trans (b1.mono HBA.out.size))
  have y0 := (HX.out w1 b1).cell (j := 0) rfl
  have y1 := (HX.out w1 b1).cell (j := 1) rfl
  have y2 := (HX.out w1 b1).cell (j := 2) rfl
  clear x0 x1 x2 b1
  cases T with
  | false =>
    have HR := hide (show realOf s d o = none by rw [HO.out]; rfl)
    go_wp2_with fail
    go_ret2
    exact ⟨_, [], by rw [HR.out]; rfl, by rw [HR.out]; exact lie_nilR _, Fresh.nil _ _, HB1.out⟩
  | true =>
    have HR := hide (show realOfL s.reals d o = realOf s d o by rw [HO.out]; rfl)
    have HC := hide (HRL.out w1 HB1.out)
    rw [HR.out] at HC
    clear HRL
    obtain ⟨R, hR⟩ : ∃ R, realOf s d o = R := ⟨_, rfl⟩
    rw [hR] at HC HPL
    have HRE := hide hR
    clear hR HR HO
    go_wp2_with fail
    refine HC.out.mono ?_
    rintro e w2 ⟨v2, rfl, iv, b2⟩
    have HB2 := hide (HB1.out.trans (b2.mono HB1.out.size))
    have HRR : Hid (Rd w2 v2 (bs (pathP R))) := hide iv.rd
    have hlo := HB2.out.size
    have hpl := HPL.out
    obtain ⟨PV, hPV⟩ : ∃ x, pathP R = x := ⟨_, rfl⟩
    rw [hPV] at HRR hpl
    have HPV := hide hPV
    clear b2 iv y0 y1 y2 hPV
    go_wp2_with (at_builtin; refine wpList_app _ rfl (.tmp 20) (.tmp 21) _ rfl w2.heap.size 5 i8 _ 1 Tryz.underlying36 hi8 hz80 hz81 hz82 rfl _ 0 [] rfl (own_lit0 w2 _) _ (bs PV) rfl (HRR.out.alloc _) (bs_one _) (by rw [bs_length]; simp only [maxLen]; omega) (by rw [bs_length]; omega) (by simp) ?_; intro v1 w3 own1 gr1; have hb1_ := below_app0 gr1; have ho1 := own_len (own_cells own1 (List.nil_append _)) (show 0 + (bs PV).length = PV.length by rw [bs_length]; omega); have HB3 := hide hb1_; have HO1 := hide ho1; clear own1 gr1 hb1_ ho1)
    go_ret2
    obtain ⟨J, j1, j2⟩ := own_freshR HO1.out
    exact ⟨_, J, by rw [HRE.out] <;> rfl, by rw [HRE.out, HPV.out]; exact j1, j2.base hlo, HB2.out.trans (HB3.out.mono hlo)⟩

end Go.Proofs.YtmhapnlgakkljaaGreatDoor


/-
  The law RealOf.
-/
namespace Go.Proofs.YtmhapnlgakkljaaGreatDoor
open Go.RowKit
set_option linter.unusedVariables false

theorem lawRealOf (x0 : DStore) (o0 : oks x0.cells) (x1 : List Int) (o1 : (raw x1).ok) (x2 : List Int) (o2 : (raw x2).ok) (w : World) (u0 : List Value) (E0 : List Nat) (h0 : Lies w x0.cells u0 E0) (u1 : Value) (E1 : List Nat) (h1 : Lie w (raw x1) u1 E1) (u2 : Value) (E2 : List Nat) (h2 : Lie w (raw x2) u2 E2) (hT : Tab w) :
    Calls Tryz.prog 7 #[.agg u0.toArray, u1, u2] w fun e w' => e = .returned (.bool true) ∧ Below w.heap.size w w' := by
  refine walkRealOf x0 x1 x2 (if bulks x0.cells ≤ 1048576 then pathP (realOf x0 x1 x2) else []) ?_ (realOf x0 x1 x2).isSome ?_ ?_ w u0 E0 h0 u1 E1 h1 u2 E2 h2 hT
  · rw [raw, Cel.cnt, cnts_numsR]
    split
    · rename_i hb; have := pathP_len (d := x1) (o := x2) hb; omega
    · simp
  · intro hb hb1 hb2 u E v G v2 G2 W h hv hv2
    rw [if_pos hb]
    refine (specRealOf x0 x1 x2 ((raw_ok x1).1 o1) ((raw_ok x2).1 o2) o0 hb u v v2 W ⟨E, h⟩ ⟨G, hv⟩ ⟨G2, hv2⟩).mono ?_
    rintro e w' ⟨r, J, he, h1, h2, h3⟩
    exact ⟨r, J, he, h1, fun g hg => .inr (.inr (.inr (h2.low g hg))), h3⟩
  · intro hb hb1 hb2 u E v G v2 G2 W h hv hv2 ht
    rw [if_pos hb]
    exact implRealOf x0 x1 x2 ((raw_ok x1).1 o1) ((raw_ok x2).1 o2) o0 hb u v v2 W ⟨E, h⟩ ⟨G, hv⟩ ⟨G2, hv2⟩ ht
end Go.Proofs.YtmhapnlgakkljaaGreatDoor
