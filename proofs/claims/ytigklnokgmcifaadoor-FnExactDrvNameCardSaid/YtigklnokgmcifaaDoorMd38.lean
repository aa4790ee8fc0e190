/-
  Parts of the proof: DrvB.
-/
import Derived.Test.YtigklnokgmcifaaDoorMd36
import Derived.Test.YtigklnokgmcifaaDoorMd29
import Derived.Test.YtigklnokgmcifaaDoorMd37
import Derived.Test.YtigklnokgmcifaaDoorMd30
import Derived.Laws.BytesArg
import Derived.IntWalk
import Derived.Deep.QuietTactic
import Derived.BigQuiet
import Derived.Deep.Cut
import Derived.Deep.DeepCutAuto
import Derived.Deep.CutBlock
import Derived.Deep.RegionWith

/-
  DrvBytes and DrvOk.
-/
namespace Go.Proofs.YtigklnokgmcifaaDoor
open Go.RowKit
set_option linter.unusedVariables false
set_option linter.unusedSimpArgs false

/-- A row of bytes of the call's own, as a datum. -/
theorem own_fresh {w : World} {lo : Nat} {v : Value} {l : List Int} (h : w.ownsRow lo 5 1 v l.length (bs l)) : ∃ F, Lie w (raw l) v F ∧ Fresh lo w F := by
  have hr : Rd w v (bs l) := (Own.of h (bs_length l).symm).rd
  refine ⟨blk v, hr.lie, ?_⟩
  rcases h.2 with ⟨rfl, hn⟩ | ⟨g, cap, cur, rfl, hbg, hg, _⟩
  · exact Fresh.nil _ _
  · rcases Nat.eq_zero_or_pos l.length with h0 | h0
    · rw [h0, blk_none]; exact Fresh.nil _ _
    · rw [blk_some h0]
      exact ⟨by simp, fun x hx => by rw [List.mem_singleton.1 hx]; exact hbg, fun x hx => by rw [List.mem_singleton.1 hx]; exact ⟨cur, _, hg⟩⟩
theorem lie_nil (w : World) : Lie w (raw []) (.slice none 0 0) [] := (show Rd w (.slice none 0 0) (bs []) from ⟨none, 0, rfl, Nat.le_refl _, Nat.zero_le _, fun h => by simp [bs] at h⟩).lie
def drvOut (d : DDrv) : List Int := if drvOk d then drvEnc d else []
theorem drvOk_small {d : DDrv} (h : drvOk d = true) : drvSmall d := by
  rw [drvOk, Bool.and_eq_true, Bool.and_eq_true, Bool.and_eq_true, Bool.and_eq_true] at h
  exact drvSmall_of h.1 h.2.2.2.1

set_option maxRecDepth 20000 in
set_option maxHeartbeats 6400000 in
theorem implDrvBytes (d : DDrv) (hok : oks d.cells) (hbk : bulks d.cells ≤ 1048576) (us : List Value) (w : World) (hs : Ins w d.cells us) :
    Calls Tryd.prog 50 #[.agg us.toArray] w fun e w' => ∃ r J, e = .returned (.tuple #[r, .bool (drvOk d)]) ∧ Lie w' (raw (drvOut d)) r J ∧ Fresh w.heap.size w' J ∧ Below w.heap.size w w' := by
  have hsx := hs
  obtain ⟨A0, c0, A1, c1, A2, c2, A3, c3, rfl, h0, h1, h2, h3⟩ := DDrv.view hs
  obtain ⟨wa, hwa⟩ : ∃ wa, w.alloc (.cells #[.slice A0 d.srcs.length c0, .slice A1 d.ins.length c1, .slice A2 d.outs.length c2, .slice A3 d.ops.length c3] 49) = wa := ⟨_, rfl⟩
  have ba : Below w.heap.size w wa := by rw [← hwa]; exact (Below.refl _ _).alloc (Nat.le_refl _) _
  have bx : Box wa w.heap.size 49 [.slice A0 d.srcs.length c0, .slice A1 d.ins.length c1, .slice A2 d.outs.length c2, .slice A3 d.ops.length c3] := by rw [← hwa]; exact Box.new w _ _
  have hz : w.heap.size < wa.heap.size := bx.lt
  have x0 := bx.cell (j := 0) rfl
  have x1 := bx.cell (j := 1) rfl
  have x2 := bx.cell (j := 2) rfl
  have x3 := bx.cell (j := 3) rfl
  have HX := hide (fun W (hb : Below wa.heap.size wa W) => (bx.step hb))
  have HBA := hide ba
  have HSR := hide (implSrcsOk d hok hbk _ wa (hsx.step ba))
  have HOU := hide (fun W (hb : Below w.heap.size w W) => implOutsOk d hok hbk _ W (hsx.step hb))
  have HEN := hide (fun (h : drvSmall d) W (hb : Below w.heap.size w W) => implDrvCode d hok hbk h _ W (hsx.step hb))
  have hsm : srcsOk d = true → outsOk d = true → drvSmall d := fun h1 h2 => by
    unfold srcsOk at h1
    unfold outsOk at h2
    simp only [Bool.and_eq_true, decide_eq_true_eq] at h1 h2
    exact drvSmall_of (by rw [drvTop, Bool.and_eq_true, decide_eq_true_eq]; exact ⟨⟨h1.1, h1.2.2.1, h2.1.1, h2.1.2, h2.2.2.1⟩, h1.2.1⟩) h2.2.2.2
  have HSM := hide hsm
  have HO := hide (show drvOut d = if drvOk d then drvEnc d else [] from rfl)
  have HT := hide (drvOk_two d)
  generalize srcsOk d = S at *
  generalize outsOk d = O at *
  generalize drvOk d = T at *
  clear bx ba hok hbk hs hsx h0 h1 h2 h3 hsm
  go_enter Tryd.func50, Tryd.ntmps50
  go_wp2_with fail
  refine HSR.out.mono ?_
  rintro e w1 ⟨rfl, b1⟩
  have HB1 := hide b1
  have HBB := hide (HBA.out.trans (b1.mono HBA.out.size))
  clear x0 x1 x2 x3
  cases S with
  | false =>
    obtain rfl : T = false := HT.out
    have HR := hide (show drvOut d = [] by rw [HO.out]; rfl)
    clear b1
    go_wp2_with fail
    go_ret2
    exact ⟨_, [], rfl, by rw [HR.out]; exact lie_nil _, Fresh.nil _ _, HBB.out⟩
  | true =>
    have y0 := (HX.out w1 b1).cell (j := 0) rfl
    have y1 := (HX.out w1 b1).cell (j := 1) rfl
    have y2 := (HX.out w1 b1).cell (j := 2) rfl
    have y3 := (HX.out w1 b1).cell (j := 3) rfl
    have HOUT := hide (HOU.out w1 HBB.out)
    clear b1 HOU HSR
    go_wp2_with fail
    refine HOUT.out.mono ?_
    rintro e w2 ⟨rfl, b2⟩
    have HB2 := hide (HB1.out.trans (b2.mono HB1.out.size))
    have HBC := hide (HBB.out.trans (b2.mono HBB.out.size))
    clear y0 y1 y2 y3 b2
    cases O with
    | false =>
      obtain rfl : T = false := HT.out
      have HR := hide (show drvOut d = [] by rw [HO.out]; rfl)
      go_wp2_with fail
      go_ret2
      exact ⟨_, [], rfl, by rw [HR.out]; exact lie_nil _, Fresh.nil _ _, HBC.out⟩
    | true =>
      have z0 := (HX.out w2 HB2.out).cell (j := 0) rfl
      have z1 := (HX.out w2 HB2.out).cell (j := 1) rfl
      have z2 := (HX.out w2 HB2.out).cell (j := 2) rfl
      have z3 := (HX.out w2 HB2.out).cell (j := 3) rfl
      have HE := hide (HEN.out (HSM.out (by trivial) (by trivial)) w2 HBC.out)
      clear HEN HSM
      go_wp2_with fail
      refine HE.out.mono ?_
      rintro e w3 ⟨v3, rfl, o3, b3⟩
      have hsl := o3
      obtain ⟨A9, c9, rfl, -, -⟩ := own_slice hsl
      have HO3 := hide (own_low o3 HBC.out.size)
      have HB3 := hide (HBC.out.trans (b3.mono HBC.out.size))
      clear hsl o3 b3
      have ht := HT.out
      by_cases hle : (drvEnc d).length ≤ 400
      · obtain rfl : T = true := by rw [ht, decide_eq_true hle]; rfl
        have hle2 : ¬ (400 : Int) < ((drvEnc d).length : Int) := by omega
        have HR := hide (show drvOut d = drvEnc d by rw [HO.out]; rfl)
        obtain ⟨LE, hLE⟩ : ∃ n, (drvEnc d).length = n := ⟨_, rfl⟩
        rw [hLE] at hle2 ⊢
        have HLE := hide hLE
        clear ht hle hLE
        go_wp2_with fail
        go_ret2
        obtain ⟨F, f1, f2⟩ := own_fresh HO3.out
        exact ⟨_, F, rfl, by rw [HR.out, ← HLE.out]; exact f1, f2, HB3.out⟩
      · obtain rfl : T = false := by rw [ht, decide_eq_false hle]; rfl
        have hle2 : (400 : Int) < ((drvEnc d).length : Int) := by omega
        have HR := hide (show drvOut d = [] by rw [HO.out]; rfl)
        clear ht hle
        go_wp2_with fail
        go_ret2
        exact ⟨_, [], rfl, by rw [HR.out]; exact lie_nil _, Fresh.nil _ _, HB3.out⟩

end Go.Proofs.YtigklnokgmcifaaDoor
