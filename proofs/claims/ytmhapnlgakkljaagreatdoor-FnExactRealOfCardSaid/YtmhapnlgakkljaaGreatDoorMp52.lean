/-
  Parts of the proof: SearchR.
-/
import Derived.Test.YtmhapnlgakkljaaGreatDoorMp26
import Derived.Test.YtmhapnlgakkljaaGreatDoorMp51
import Derived.Laws.BytesArg
import Derived.IntWalk
import Derived.Deep.QuietTactic
import Derived.BigQuiet
import Derived.Deep.Cut
import Derived.Deep.DeepCutAuto
import Derived.Deep.CutBlock
import Derived.Deep.RegionWith
import Derived.Deep.RegionHeld3

/-
  The library's binary search among realisations.
-/
namespace Go.Proofs.YtmhapnlgakkljaaGreatDoor
open Go.RowKit
set_option linter.unusedVariables false
set_option linter.unusedSimpArgs false


set_option maxRecDepth 20000 in
set_option maxHeartbeats 6400000 in
theorem searchR (l : List DReal) (t : DReal) (hl : ∀ r ∈ l, oks r.cells) (ht : oks t.cells) (Z : Nat → Int) (hZ : ∀ i (h : i < l.length), Z i = inCmpI (asIn l[i]) (asIn t)) (hmono : ∀ i j, i ≤ j → j < l.length → 0 ≤ Z i → 0 ≤ Z j)
    (A : Option Addr) (n c : Nat) (hn : l.length = n) (hn2 : n ≤ 1048576) (ts : List Value) (w : World) (hs : In1 w (seqOf 3 DReal.cells l) (.slice A n c)) (htv : Ins w t.cells ts) :
    Calls Tryz.prog 133 #[.slice A n c, .agg ts.toArray, .func (.func 97) #[] #[]] w fun e w' => ∃ p : Nat, e = .returned (.tuple #[.int .i64 p, .bool (decide (p < n) && decide (Z p = 0))]) ∧ p ≤ n ∧ (∀ m, m < p → Z m < 0) ∧ (p < n → 0 ≤ Z p) ∧ Below w.heap.size w w' := by
  have hsx := fun W (hb : Below w.heap.size w W) => htv.step hb
  obtain ⟨T0, e0, T1, e1, T2, e2, rfl, t0, t1, t2⟩ := DReal.view htv
  obtain ⟨M0, hM0⟩ : ∃ x, t.drv.length = x := ⟨_, rfl⟩
  obtain ⟨M1, hM1⟩ : ∃ x, t.out.length = x := ⟨_, rfl⟩
  obtain ⟨M2, hM2⟩ : ∃ x, t.path.length = x := ⟨_, rfl⟩
  rw [hM0, hM1, hM2] at hsx
  simp only [hM0, hM1, hM2]
  obtain ⟨wa, hwa⟩ : ∃ wa, w.alloc (.cells #[.slice T0 M0 e0, .slice T1 M1 e1, .slice T2 M2 e2] 66) = wa := ⟨_, rfl⟩
  have ba : Below w.heap.size w wa := by rw [← hwa]; exact (Below.refl _ _).alloc (Nat.le_refl _) _
  have bx : Box wa w.heap.size 66 [.slice T0 M0 e0, .slice T1 M1 e1, .slice T2 M2 e2] := by rw [← hwa]; exact Box.new w _ _
  have HX := hide (fun W (hb : Below wa.heap.size wa W) => (bx.step hb))
  have HBA := hide ba
  have HTV := hide hsx
  have HS := hide hs
  have HL := hide hl
  have HT := hide ht
  have HZ := hide hZ
  have HM := hide hmono
  have HN := hide hn
  clear bx ba hsx htv hs hl ht hZ hmono hn t0 t1 t2 hM0 hM1 hM2
  go_enter Tryz.func133, Tryz.ntmps133
  go_wp2
  go_loopw [9, 10] (fun a z wr => ∃ lo hi : Nat, a = .int .i64 lo ∧ z = .int .i64 hi ∧ lo ≤ hi ∧ hi ≤ n ∧ Hid (∀ m, m < lo → Z m < 0) ∧ Hid (∀ m, hi ≤ m → m < n → 0 ≤ Z m) ∧ Hid (Below wa.heap.size wa wr)) (fun a z _ => (intOf z).toNat - (intOf a).toNat)
  case atStart => exact ⟨0, n, rfl, rfl, Nat.zero_le _, Nat.le_refl _, hide (fun m hm => absurd hm (Nat.not_lt_zero _)), hide (fun m h1 h2 => by omega), hide (Below.refl _ _)⟩
  case round =>
    obtain ⟨lo, hi, rfl, rfl, hlh, hin, H1, H2, HB⟩ := hrel
    by_cases hlt : lo < hi
    · have hk2 : (lo + hi) / 2 < l.length := by rw [HN.out]; omega
      obtain ⟨h, hh⟩ : ∃ h, (lo + hi) / 2 = h := ⟨_, rfl⟩
      rw [hh] at hk2
      have g1 : (lo : Int) < (hi : Int) := by omega
      have kk : ((lo : Int) + (hi : Int)) / 2 = (h : Int) := by omega
      have k1 : (h : Int) < (n : Int) := by omega
      have k0 : (0 : Int) ≤ (h : Int) := by omega
      have k2_ : (h : Int).toNat = h := by omega
      have b1 : lo ≤ h := by omega
      have b2 : h < hi := by omega
      obtain ⟨b, of, cc, B0, d0, B1, d1, B2, d2, -, e, lb, q0, q1, q2, i0, i1, i2⟩ := DReal.elem HS.out (Below.refl _ _) hk2
      obtain rfl := e rfl
      have hok_ := HL.out _ (List.getElem_mem hk2)
      obtain ⟨z, hz⟩ : ∃ z, Z h = z := ⟨_, rfl⟩
      have hic := fun W (hb : Below w.heap.size w W) => implCmpReals l[h] t hok_ HT.out _ _ W (DReal.lay (i0.step hb) (i1.step hb) (i2.step hb)) (HTV.out W hb)
      rw [← HZ.out _ hk2, hz] at hic
      obtain ⟨L0, hL0⟩ : ∃ x, (l[h]).drv.length = x := ⟨_, rfl⟩
      obtain ⟨L1, hL1⟩ : ∃ x, (l[h]).out.length = x := ⟨_, rfl⟩
      obtain ⟨L2, hL2⟩ : ∃ x, (l[h]).path.length = x := ⟨_, rfl⟩
      rw [hL0] at q0 hic
      rw [hL1] at q1 hic
      rw [hL2] at q2 hic
      have HIC := hide hic
      have HZH := hide hz
      have HQ0 := hide (fun W (hb : Below w.heap.size w W) => (hb.cell (p := ⟨b, of + h * 3, none⟩) lb).trans q0)
      have HQ1 := hide (fun W (hb : Below w.heap.size w W) => (hb.cell (p := ⟨b, of + h * 3 + 1, none⟩) lb).trans q1)
      have HQ2 := hide (fun W (hb : Below w.heap.size w W) => (hb.cell (p := ⟨b, of + h * 3 + 2, none⟩) lb).trans q2)
      have HSS := hide (fun W (hb : Below wa.heap.size wa W) => show (fun W : World => W.cell? ⟨w.heap.size, 0, none⟩ = some (.slice T0 M0 e0) ∧ W.cell? ⟨w.heap.size, 1, none⟩ = some (.slice T1 M1 e1) ∧ W.cell? ⟨w.heap.size, 2, none⟩ = some (.slice T2 M2 e2) ∧ W.cell? ⟨b, of + h * 3, none⟩ = some (.slice B0 L0 d0) ∧ W.cell? ⟨b, of + h * 3 + 1, none⟩ = some (.slice B1 L1 d1) ∧ W.cell? ⟨b, of + h * 3 + 2, none⟩ = some (.slice B2 L2 d2)) W from ⟨(HX.out W hb).cell (j := 0) rfl, (HX.out W hb).cell (j := 1) rfl, (HX.out W hb).cell (j := 2) rfl, HQ0.out W (HBA.out.trans (hb.mono HBA.out.size)), HQ1.out W (HBA.out.trans (hb.mono HBA.out.size)), HQ2.out W (HBA.out.trans (hb.mono HBA.out.size))⟩)
      have HBD := hide (HB.out.drew)
      clear hok_ hz hic q0 q1 q2 i0 i1 i2 hL0 hL1 hL2 lb
      go_upto_region 5 with (fail)
      by_cases hneg : z < 0
      · have HNG := hide hneg
        go_region_held3 (fun W : World => W.cell? ⟨w.heap.size, 0, none⟩ = some (.slice T0 M0 e0) ∧ W.cell? ⟨w.heap.size, 1, none⟩ = some (.slice T1 M1 e1) ∧ W.cell? ⟨w.heap.size, 2, none⟩ = some (.slice T2 M2 e2) ∧ W.cell? ⟨b, of + h * 3, none⟩ = some (.slice B0 L0 d0) ∧ W.cell? ⟨b, of + h * 3 + 1, none⟩ = some (.slice B1 L1 d1) ∧ W.cell? ⟨b, of + h * 3 + 2, none⟩ = some (.slice B2 L2 d2))
          (first
            | exact HSS.out _ HB8.out
            | exact HSS.out _ HBD.out
            | go_keep)
          (first
            | (go_simp; go_at_call 97; refine (HIC.out _ (HBA.out.trans (HBD.out.mono HBA.out.size))).mono ?_; rintro e w8 ⟨rfl, b8⟩; have HB8 := hide (HBD.out.trans (b8.mono HBD.out.size)); clear b8))
        all_goals
          go_wp2
          go_roundw
          case rel => exact ⟨h + 1, hi, by go_num, rfl, by omega, hin, hide (fun m hm => by
            by_cases hq : 0 ≤ Z m
            · have h3 := HM.out m h (by omega) hk2 hq
              have h4 := HZH.out
              have h5 := HNG.out
              omega
            · omega), H2, HB8⟩
          case measure => simp [intOf]; omega
      · have HNG := hide hneg
        go_region_held3 (fun W : World => W.cell? ⟨w.heap.size, 0, none⟩ = some (.slice T0 M0 e0) ∧ W.cell? ⟨w.heap.size, 1, none⟩ = some (.slice T1 M1 e1) ∧ W.cell? ⟨w.heap.size, 2, none⟩ = some (.slice T2 M2 e2) ∧ W.cell? ⟨b, of + h * 3, none⟩ = some (.slice B0 L0 d0) ∧ W.cell? ⟨b, of + h * 3 + 1, none⟩ = some (.slice B1 L1 d1) ∧ W.cell? ⟨b, of + h * 3 + 2, none⟩ = some (.slice B2 L2 d2))
          (first
            | exact HSS.out _ HB8.out
            | exact HSS.out _ HBD.out
            | go_keep)
          (first
            | (go_simp; go_at_call 97; refine (HIC.out _ (HBA.out.trans (HBD.out.mono HBA.out.size))).mono ?_; rintro e w8 ⟨rfl, b8⟩; have HB8 := hide (HBD.out.trans (b8.mono HBD.out.size)); clear b8))
        all_goals
          go_wp2
          go_roundw
          case rel => exact ⟨lo, h, rfl, by go_num, by omega, by omega, H1, hide (fun m h3 h4 => HM.out h m h3 (by rw [HN.out]; exact h4) (by have h5 := HZH.out; have h6 := HNG.out; omega)), HB8⟩
          case measure => simp [intOf]; omega
    · obtain rfl : hi = lo := by omega
      have g1 : ¬ (hi : Int) < (hi : Int) := by omega
      by_cases hn3 : hi < n
      · have hk2 : hi < l.length := by rw [HN.out]; exact hn3
        have k1 : (hi : Int) < (n : Int) := by omega
        have k0 : (0 : Int) ≤ (hi : Int) := by omega
        have k2_ : (hi : Int).toNat = hi := by omega
        obtain ⟨b, of, cc, B0, d0, B1, d1, B2, d2, -, e, lb, q0, q1, q2, i0, i1, i2⟩ := DReal.elem HS.out (Below.refl _ _) hk2
        obtain rfl := e rfl
        have hok_ := HL.out _ (List.getElem_mem hk2)
        obtain ⟨z, hz⟩ : ∃ z, Z hi = z := ⟨_, rfl⟩
        have hic := fun W (hb : Below w.heap.size w W) => implCmpReals l[hi] t hok_ HT.out _ _ W (DReal.lay (i0.step hb) (i1.step hb) (i2.step hb)) (HTV.out W hb)
        rw [← HZ.out _ hk2, hz] at hic
        obtain ⟨L0, hL0⟩ : ∃ x, (l[hi]).drv.length = x := ⟨_, rfl⟩
        obtain ⟨L1, hL1⟩ : ∃ x, (l[hi]).out.length = x := ⟨_, rfl⟩
        obtain ⟨L2, hL2⟩ : ∃ x, (l[hi]).path.length = x := ⟨_, rfl⟩
        rw [hL0] at q0 hic
        rw [hL1] at q1 hic
        rw [hL2] at q2 hic
        have HIC := hide hic
        have HZH := hide hz
        have HQ0 := hide (fun W (hb : Below w.heap.size w W) => (hb.cell (p := ⟨b, of + hi * 3, none⟩) lb).trans q0)
        have HQ1 := hide (fun W (hb : Below w.heap.size w W) => (hb.cell (p := ⟨b, of + hi * 3 + 1, none⟩) lb).trans q1)
        have HQ2 := hide (fun W (hb : Below w.heap.size w W) => (hb.cell (p := ⟨b, of + hi * 3 + 2, none⟩) lb).trans q2)
        have HSS := hide (fun W (hb : Below wa.heap.size wa W) => show (fun W : World => W.cell? ⟨w.heap.size, 0, none⟩ = some (.slice T0 M0 e0) ∧ W.cell? ⟨w.heap.size, 1, none⟩ = some (.slice T1 M1 e1) ∧ W.cell? ⟨w.heap.size, 2, none⟩ = some (.slice T2 M2 e2) ∧ W.cell? ⟨b, of + hi * 3, none⟩ = some (.slice B0 L0 d0) ∧ W.cell? ⟨b, of + hi * 3 + 1, none⟩ = some (.slice B1 L1 d1) ∧ W.cell? ⟨b, of + hi * 3 + 2, none⟩ = some (.slice B2 L2 d2)) W from ⟨(HX.out W hb).cell (j := 0) rfl, (HX.out W hb).cell (j := 1) rfl, (HX.out W hb).cell (j := 2) rfl, HQ0.out W (HBA.out.trans (hb.mono HBA.out.size)), HQ1.out W (HBA.out.trans (hb.mono HBA.out.size)), HQ2.out W (HBA.out.trans (hb.mono HBA.out.size))⟩)
        have HBD := hide (HB.out.drew)
        clear hok_ hz hic q0 q1 q2 i0 i1 i2 hL0 hL1 hL2 lb
        go_upto_region 8 with (fail)
        go_region_held3 (fun W : World => W.cell? ⟨w.heap.size, 0, none⟩ = some (.slice T0 M0 e0) ∧ W.cell? ⟨w.heap.size, 1, none⟩ = some (.slice T1 M1 e1) ∧ W.cell? ⟨w.heap.size, 2, none⟩ = some (.slice T2 M2 e2) ∧ W.cell? ⟨b, of + hi * 3, none⟩ = some (.slice B0 L0 d0) ∧ W.cell? ⟨b, of + hi * 3 + 1, none⟩ = some (.slice B1 L1 d1) ∧ W.cell? ⟨b, of + hi * 3 + 2, none⟩ = some (.slice B2 L2 d2))
          (first
            | exact HSS.out _ HB8.out
            | exact HSS.out _ HBD.out
            | go_keep)
          (first
            | (go_simp; go_at_call 97; refine (HIC.out _ (HBA.out.trans (HBD.out.mono HBA.out.size))).mono ?_; rintro e w8 ⟨rfl, b8⟩; have HB8 := hide (HBD.out.trans (b8.mono HBD.out.size)); clear b8))
        all_goals
          go_wp2
          go_ret2
          exact ⟨hi, by rw [HZH.out, decide_eq_true hn3]; rfl, hin, H1.out, fun _ => H2.out hi (Nat.le_refl _) hn3, HBA.out.trans (HB8.out.mono HBA.out.size)⟩
      · have g2 : ¬ (hi : Int) < (n : Int) := by omega
        have hund : undef = Value.tuple #[] := rfl
        have HBD := hide (HB.out.drew)
        go_upto_region 8 with (fail)
        refine wp_region_any (by kernel_rfl) ?_
        try (change wpAny _ _ _ _ _ _ _ (World.drew _))
        refine wpAny_take (i := 0) (v := .int .i64 (hi : Int)) rfl (by kernel_rfl) (by kernel_rfl) (by kernel_rfl) (fun _ _ _ h => h) (Or.inl ⟨by kernel_rfl, by intro w; go_simp⟩) ?_
        go_simp
        refine wpAny_take (i := 1) (v := .int .i64 (hi : Int)) rfl (by kernel_rfl) (by kernel_rfl) (by kernel_rfl) (fun _ _ _ h => h) (Or.inl ⟨by kernel_rfl, by intro w; go_simp⟩) ?_
        go_simp
        refine wpAny_take (i := 2) (v := .int .i64 (n : Int)) rfl (by kernel_rfl) (by kernel_rfl) (by kernel_rfl) (fun _ _ _ h => h) (Or.inl ⟨by kernel_rfl, by intro w; go_simp⟩) ?_
        go_simp
        refine wpAny_take (i := 3) (v := .bool false) rfl (by kernel_rfl) (by kernel_rfl) (by kernel_rfl) (fun _ _ _ h => h) (Or.inl ⟨by kernel_rfl, by intro w; go_simp⟩) ?_
        go_simp
        refine wpAny_take (i := 4) (v := .bool false) rfl (by kernel_rfl) (by kernel_rfl) (by kernel_rfl) (fun _ _ _ h => h) (Or.inl ⟨by kernel_rfl, by intro w; go_simp⟩) ?_
        go_simp
        refine wpAny_take (i := 5) (v := undef) rfl (by kernel_rfl) (by kernel_rfl) (by kernel_rfl) (fun _ _ _ h => h) (Or.inr ⟨by kernel_rfl, rfl⟩) ?_
        go_simp
        refine wpAny_take (i := 6) (v := undef) rfl (by kernel_rfl) (by kernel_rfl) (by kernel_rfl) (fun _ _ _ h => h) (Or.inr ⟨by kernel_rfl, rfl⟩) ?_
        go_simp
        refine wpAny_take (i := 7) (v := undef) rfl (by kernel_rfl) (by kernel_rfl) (by kernel_rfl) (fun _ _ _ h => h) (Or.inr ⟨by kernel_rfl, rfl⟩) ?_
        go_simp
        refine wpAny_take (i := 8) (v := undef) rfl (by kernel_rfl) (by kernel_rfl) (by kernel_rfl) (fun _ _ _ h => h) (Or.inr ⟨by kernel_rfl, rfl⟩) ?_
        go_simp
        refine wpAny_take (i := 9) (v := undef) rfl (by kernel_rfl) (by kernel_rfl) (by kernel_rfl) (fun _ _ _ h => h) (Or.inr ⟨by kernel_rfl, rfl⟩) ?_
        go_simp
        refine wpAny_take (i := 10) (v := undef) rfl (by kernel_rfl) (by kernel_rfl) (by kernel_rfl) (fun _ _ _ h => h) (Or.inr ⟨by kernel_rfl, rfl⟩) ?_
        go_simp
        refine wpAny_take (i := 11) (v := undef) rfl (by kernel_rfl) (by kernel_rfl) (by kernel_rfl) (fun _ _ _ h => h) (Or.inr ⟨by kernel_rfl, rfl⟩) ?_
        go_simp
        refine wpAny_take (i := 12) (v := undef) rfl (by kernel_rfl) (by kernel_rfl) (by kernel_rfl) (fun _ _ _ h => h) (Or.inr ⟨by kernel_rfl, rfl⟩) ?_
        go_simp
        refine wpAny_take (i := 13) (v := .bool false) rfl (by kernel_rfl) (by kernel_rfl) (by kernel_rfl) (fun _ _ _ h => h) (Or.inl ⟨by kernel_rfl, by intro w; go_simp⟩) ?_
        go_simp
        refine wpAny_take (i := 14) (v := .int .i64 (hi : Int)) rfl (by kernel_rfl) (by kernel_rfl) (by kernel_rfl) (fun _ _ _ h => h) (Or.inl ⟨by kernel_rfl, by intro w; go_simp⟩) ?_
        go_simp
        refine wpAny_take (i := 15) (v := .bool false) rfl (by kernel_rfl) (by kernel_rfl) (by kernel_rfl) (fun _ _ _ h => h) (Or.inl ⟨by kernel_rfl, by intro w; go_simp⟩) ?_
        go_simp
        refine wpAny_done (by kernel_rfl) ?_ _
        go_wp2
        go_ret2
        exact ⟨hi, by rw [decide_eq_false hn3]; rfl, hin, H1.out, fun h => absurd h hn3, HBA.out.trans (HBD.out.mono HBA.out.size)⟩

end Go.Proofs.YtmhapnlgakkljaaGreatDoor
