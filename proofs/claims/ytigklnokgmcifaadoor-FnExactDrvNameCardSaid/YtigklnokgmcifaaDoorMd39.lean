/-
  Parts of the proof: DrvNm.
-/
import Derived.Test.YtigklnokgmcifaaDoorMd38
import Derived.Test.YtigklnokgmcifaaDoorMd28
import Derived.Test.YtigklnokgmcifaaDoorMd8
import Derived.Laws.BytesArg
import Derived.IntWalk
import Derived.Deep.QuietTactic
import Derived.BigQuiet
import Derived.Deep.Cut
import Derived.Deep.DeepCutAuto
import Derived.Deep.CutBlock
import Derived.Deep.RegionWith

/-
  DrvName: the model and the program.
-/
namespace Go.Proofs.YtigklnokgmcifaaDoor
open Go.RowKit
set_option linter.unusedVariables false
set_option linter.unusedSimpArgs false

theorem cat_byt {α : Type} {f : α → List Int} {l : List α} (h : ∀ x ∈ l, Byt (f x)) : Byt (cat f l) := by
  intro x hx
  obtain ⟨y, hy, hxy⟩ := List.mem_flatten.1 hx
  obtain ⟨z, hz, rfl⟩ := List.mem_map.1 hy
  exact h z hz x hxy
theorem drvEnc_byt {d : DDrv} (hok : oks d.cells) (hs : drvSmall d) : Byt (drvEnc d) := by
  obtain ⟨o1, o2, o3, o4⟩ := (DDrv.oks_iff d).1 hok
  obtain ⟨s1, s2, s3, s4, s5⟩ := hs
  have hh : Byt (drvHead d) := by
    intro x hx
    unfold drvHead at hx
    simp only [List.mem_cons, List.not_mem_nil, or_false] at hx
    omega
  have h1 : Byt (cat id d.srcs) := cat_byt fun x hx => o1 x hx
  have h2 : Byt (cat inEnc d.ins) := cat_byt fun x hx => by
    have h := (DIn.oks_iff x).1 (o2 x hx)
    exact h.1.app (etx_byt h.2)
  have h3 : Byt (cat etx d.outs) := cat_byt fun x hx => etx_byt (o3 x hx)
  have h4 : Byt (cat opEnc d.ops) := cat_byt fun x hx => by
    have h := (DOp.oks_iff x).1 (o4 x hx)
    have hr := s5 x hx
    unfold opEnc
    refine Byt.app (Byt.app ?_ (etx_byt h.2.2.1)) (etx_byt h.2.2.2.1)
    intro y hy
    simp only [List.mem_cons, List.not_mem_nil, or_false] at hy
    omega
  exact (((hh.app h1).app h2).app h3).app h4
/-- The name of a derivation; [] if it is not valid. -/
def drvNm (d : DDrv) : List Int := if drvOk d then nameOf 116 (drvEnc d) else []
theorem drvEnc_len {d : DDrv} (h : drvOk d = true) : (drvEnc d).length ≤ 400 := by
  rw [drvOk, Bool.and_eq_true, Bool.and_eq_true, Bool.and_eq_true, Bool.and_eq_true, decide_eq_true_eq] at h
  exact h.2.2.2.2
theorem own_datum {w : World} {lo hi : Nat} {v : Value} {l : List Int} (h : Own 5 lo hi w v (bs l)) : ∃ F, Lie w (raw l) v F ∧ Fresh lo w F :=
  own_fresh (by have := h.1; rwa [bs_length] at this)

set_option maxRecDepth 20000 in
set_option maxHeartbeats 1600000 in
theorem specDrvName (d : DDrv) (hok : oks d.cells) (hbk : bulks d.cells ≤ 1048576) (us : List Value) (w : World) (hs : Ins w d.cells us) :
    Calls Tryd.prog 12 #[.agg us.toArray] w fun e w' => ∃ r J, e = .returned (.tuple #[r, .bool (drvOk d)]) ∧ Lie w' (raw (drvNm d)) r J ∧ Fresh w.heap.size w' J ∧ Below w.heap.size w w' := by
  have hsx := hs
  obtain ⟨A0, c0, A1, c1, A2, c2, A3, c3, rfl, h0, h1, h2, h3⟩ := DDrv.view hs
  obtain ⟨wa, hwa⟩ : ∃ wa, w.alloc (.cells #[.slice A0 d.srcs.length c0, .slice A1 d.ins.length c1, .slice A2 d.outs.length c2, .slice A3 d.ops.length c3] 49) = wa := ⟨_, rfl⟩
  have ba : Below w.heap.size w wa := by rw [← hwa]; exact (Below.refl _ _).alloc (Nat.le_refl _) _
  have bx : Box wa w.heap.size 49 [.slice A0 d.srcs.length c0, .slice A1 d.ins.length c1, .slice A2 d.outs.length c2, .slice A3 d.ops.length c3] := by rw [← hwa]; exact Box.new w _ _
  have hz : w.heap.size < wa.heap.size := bx.lt
  have x0 := bx.cell (j := 0) rfl
  have x1 := bx.cell (j := 1) rfl
  have x2 := bx.cell (j := 2) rfl
  have x3 := bx.cell (j := 3) rfl
  have HOK := hide (specDrvOk d hok hbk _ wa (hsx.step ba))
  have HEN := hide (fun (h : drvOk d = true) W (hb : Below w.heap.size w W) => specDrvEnc d hok hbk (drvOk_small h) _ W (hsx.step hb))
  have HNM := hide (fun (h : drvOk d = true) v W (hr : Rd W v (bs (drvEnc d))) => specName 116 (by omega) (drvEnc d) (drvEnc_byt hok (drvOk_small h)) v W hr (by have := drvEnc_len h; omega))
  have HLN := hide (fun (h : drvOk d = true) => drvEnc_len h)
  have HX := hide (fun W (hb : Below wa.heap.size wa W) => (bx.step hb))
  have HBA := hide ba
  have HO := hide (show drvNm d = if drvOk d then nameOf 116 (drvEnc d) else [] from rfl)
  generalize hT : drvOk d = T at *
  clear bx ba hok hbk hs hsx h0 h1 h2 h3 hT
  go_enter Tryd.func12, Tryd.ntmps12
  go_wp2_with fail
  refine HOK.out.mono ?_
  rintro e w1 ⟨rfl, b1⟩
  have HB1 := hide b1
  clear x0 x1 x2 x3
  cases T with
  | false =>
    have HR := hide (show drvNm d = [] by rw [HO.out]; rfl)
    clear b1
    go_wp2_with fail
    go_ret2
    exact ⟨_, [], rfl, by rw [HR.out]; exact lie_nil _, Fresh.nil _ _, HBA.out.trans (HB1.out.mono HBA.out.size)⟩
  | true =>
    have HR := hide (show drvNm d = b32 ((shaL (116 :: drvEnc d)).take 10) by
      have := HLN.out (by trivial)
      rw [HO.out, if_pos rfl, nameOf, if_neg (by omega)])
    have y0 := (HX.out w1 b1).cell (j := 0) rfl
    have y1 := (HX.out w1 b1).cell (j := 1) rfl
    have y2 := (HX.out w1 b1).cell (j := 2) rfl
    have y3 := (HX.out w1 b1).cell (j := 3) rfl
    have hbb := HBA.out.trans (HB1.out.mono HBA.out.size)
    have HBB := hide hbb
    have HE := hide (HEN.out (by trivial) w1 hbb)
    have HN := hide (HNM.out (by trivial))
    clear b1 hbb HEN HNM
    go_wp2_with fail
    refine HE.out.mono ?_
    rintro e w2 ⟨v2, rfl, o2, b2⟩
    have r2 := (Own.of o2 (bs_length _).symm).rd
    have HB2 := hide (HBB.out.trans (b2.mono HBB.out.size))
    clear o2 b2
    go_wp2_with fail
    refine (HN.out v2 w2 r2).mono ?_
    rintro e w3 ⟨v3, rfl, o3, b3⟩
    have HB3 := hide (HB2.out.trans (b3.mono HB2.out.size))
    have HO3 := hide (o3.wide HB2.out.size (Nat.le_refl _) (Nat.le_refl _))
    clear o3 b3 r2
    go_wp2_with fail
    go_ret2
    obtain ⟨F, f1, f2⟩ := own_datum HO3.out
    exact ⟨_, F, rfl, by rw [HR.out]; exact f1, f2, HB3.out⟩

set_option maxRecDepth 20000 in
set_option maxHeartbeats 1600000 in
theorem implDrvName (d : DDrv) (hok : oks d.cells) (hbk : bulks d.cells ≤ 1048576) (us : List Value) (w : World) (hs : Ins w d.cells us) (hTb : Tab w) :
    Calls Tryd.prog 14 #[.agg us.toArray] w fun e w' => ∃ r J, e = .returned (.tuple #[r, .bool (drvOk d)]) ∧ Lie w' (raw (drvNm d)) r J ∧ Fresh w.heap.size w' J ∧ Below w.heap.size w w' := by
  have hsx := hs
  obtain ⟨A0, c0, A1, c1, A2, c2, A3, c3, rfl, h0, h1, h2, h3⟩ := DDrv.view hs
  obtain ⟨wa, hwa⟩ : ∃ wa, w.alloc (.cells #[.slice A0 d.srcs.length c0, .slice A1 d.ins.length c1, .slice A2 d.outs.length c2, .slice A3 d.ops.length c3] 49) = wa := ⟨_, rfl⟩
  have ba : Below w.heap.size w wa := by rw [← hwa]; exact (Below.refl _ _).alloc (Nat.le_refl _) _
  have bx : Box wa w.heap.size 49 [.slice A0 d.srcs.length c0, .slice A1 d.ins.length c1, .slice A2 d.outs.length c2, .slice A3 d.ops.length c3] := by rw [← hwa]; exact Box.new w _ _
  have hz : w.heap.size < wa.heap.size := bx.lt
  have x0 := bx.cell (j := 0) rfl
  have x1 := bx.cell (j := 1) rfl
  have x2 := bx.cell (j := 2) rfl
  have x3 := bx.cell (j := 3) rfl
  have HEN := hide (implDrvBytes d hok hbk _ wa (hsx.step ba))
  have HNM := hide (fun (h : drvOk d = true) v W (hr : Rd W v (bs (drvEnc d))) (hb : Below w.heap.size w W) => implNameOf 116 (by omega) (drvEnc d) (drvEnc_byt hok (drvOk_small h)) v W hr (hTb.step hb))
  have HDO := hide (show drvOut d = if drvOk d then drvEnc d else [] from rfl)
  have HX := hide (fun W (hb : Below wa.heap.size wa W) => (bx.step hb))
  have HBA := hide ba
  have HO := hide (show drvNm d = if drvOk d then nameOf 116 (drvEnc d) else [] from rfl)
  generalize hT : drvOk d = T at *
  clear bx ba hok hbk hs hsx h0 h1 h2 h3 hT hTb
  go_enter Tryd.func14, Tryd.ntmps14
  go_wp2_with fail
  refine HEN.out.mono ?_
  rintro e w1 ⟨r1, J1, rfl, l1, f1, b1⟩
  have HB1 := hide (HBA.out.trans (b1.mono HBA.out.size))
  clear x0 x1 x2 x3
  cases T with
  | false =>
    have HR := hide (show drvNm d = [] by rw [HO.out]; rfl)
    clear b1 l1 f1
    go_wp2_with fail
    go_ret2
    exact ⟨_, [], rfl, by rw [HR.out]; exact lie_nil _, Fresh.nil _ _, HB1.out⟩
  | true =>
    have HR := hide (show drvNm d = nameOf 116 (drvEnc d) by rw [HO.out, if_pos rfl])
    have hd : drvOut d = drvEnc d := by rw [HDO.out, if_pos rfl]
    rw [hd] at l1
    have HN := hide (HNM.out (by trivial) r1 w1 l1.rd.1 HB1.out)
    clear b1 l1 f1 hd HNM
    go_wp2_with fail
    refine HN.out.mono ?_
    rintro e w3 ⟨v3, rfl, o3, b3⟩
    have HB3 := hide (HB1.out.trans (b3.mono HB1.out.size))
    have HO3 := hide (o3.wide HB1.out.size (Nat.le_refl _) (Nat.le_refl _))
    clear o3 b3
    go_wp2_with fail
    go_ret2
    obtain ⟨F, f1, f2⟩ := own_datum HO3.out
    exact ⟨_, F, rfl, by rw [HR.out]; exact f1, f2, HB3.out⟩


end Go.Proofs.YtigklnokgmcifaaDoor
