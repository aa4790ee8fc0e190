
/-
  Merged: CountOpsL, CountOpsProof.
-/
import Derived.Test.YtnloknhcdlannaaCountOpsW
import Derived.Test.YtnloknhcdlannaaDrvTop
import Derived.Laws.BytesArg
import Derived.IntWalk
import Derived.Deep.QuietTactic
import Derived.BigQuiet
import Derived.Deep.Cut
import Derived.Deep.DeepCutAuto
import Derived.Deep.CutBlock
import Derived.Deep.RegionWith
import Derived.Test.YtnloknhcdlannaaDSAll

namespace Go.Proofs.Ytnloknhcdlannaa
open Go.RowKit
set_option linter.unusedVariables false
set_option linter.unusedSimpArgs false

def opCnt (l : List DOp) (c : Int) : Nat := (l.filter (fun o => o.code == c)).length
theorem opCnt_next {l : List DOp} {c : Int} {k : Nat} (h : k < l.length) : opCnt (l.take (k + 1)) c = opCnt (l.take k) c + (if (l[k]).code == c then 1 else 0) := by
  unfold opCnt
  rw [List.take_succ_eq_append_getElem h, List.filter_append, List.length_append]
  cases hc : ((l[k]).code == c) <;> simp [List.filter_cons, hc]
theorem opCnt_le (l : List DOp) (c : Int) : opCnt l c ≤ l.length := List.length_filter_le _ _
def countOps (d : DDrv) (c : Int) : Int := if drvOk d then (opCnt d.ops c : Int) else -1

set_option maxHeartbeats 800000 in
theorem cntF (oc oo oa c : Int) (A2 : Option Addr) (n2 c2 : Nat) (A3 : Option Addr) (n3 c3 : Nat) (g : Nat) (w : World) (hg : w.cell? ⟨g, 0, none⟩ = some (.int .i64 c)) (hlt : g < w.heap.size) :
    Calls Try.prog 66 #[.agg #[.int .i64 oc, .int .i64 oo, .slice A2 n2 c2, .slice A3 n3 c3, .int .i64 oa], .pointer (some ⟨g, 0, none⟩)] w fun e w' => e = .returned (.bool (oc == c)) ∧ Below w.heap.size w w' := by
  obtain ⟨wa, hwa⟩ : ∃ W, w.alloc (.cells #[.int .i64 oc, .int .i64 oo, .slice A2 n2 c2, .slice A3 n3 c3, .int .i64 oa] 27) = W := ⟨_, rfl⟩
  have hb : Below w.heap.size w wa := by rw [← hwa]; exact (Below.refl _ _).alloc (Nat.le_refl _) _
  have hbx : Box wa w.heap.size 27 [.int .i64 oc, .int .i64 oo, .slice A2 n2 c2, .slice A3 n3 c3, .int .i64 oa] := by rw [← hwa]; exact Box.new w _ _
  have x0 := hbx.cell (j := 0) rfl
  have x9 := (hb.cell (p := ⟨g, 0, none⟩) hlt).trans hg
  have HB := hide hb
  clear hb hbx hg
  go_enter Try.func66, Try.ntmps66
  go_wp2
  go_ret
  exact ⟨rfl, HB.out⟩

set_option maxRecDepth 20000 in
set_option maxHeartbeats 1600000 in
theorem countOfOp (l : List DOp) (c : Int) (A : Option Addr) (n cc : Nat) (hn : l.length = n) (hn2 : n ≤ 1048576) (g : Nat) (w : World) (hs : In1 w (seqOf 5 DOp.cells l) (.slice A n cc)) (hg : w.cell? ⟨g, 0, none⟩ = some (.int .i64 c)) (hlt : g < w.heap.size) :
    Calls Try.prog 65 #[.slice A n cc, .func (.func 66) #[] #[.pointer (some ⟨g, 0, none⟩)]] w fun e w' => e = .returned (.int .i64 (opCnt l c : Int)) ∧ Below w.heap.size w w' := by
  have HN := hide hn
  have HS := hide hs
  have HG := hide hg
  clear hn hs hg
  go_enter Try.func65, Try.ntmps65
  go_wp2
  go_loopw [5, 10] (fun s i wr => ∃ k : Nat, k ≤ n ∧ i = .int .i64 k ∧ s = .int .i64 (opCnt (l.take k) c : Int) ∧ Hid (Below w.heap.size w wr)) (fun _ i _ => n - (intOf i).toNat)
  case atStart => exact ⟨0, Nat.zero_le _, rfl, rfl, hide (Below.refl _ _)⟩
  case round =>
    obtain ⟨k, hk, rfl, rfl, HB⟩ := hrel
    have hle := opCnt_le (l.take k) c
    rw [List.length_take] at hle
    by_cases hlt2 : k < n
    · have hk2 : k < l.length := by rw [HN.out]; exact hlt2
      have k1 : (k : Int) < (n : Int) := by omega
      have hnx := opCnt_next (c := c) hk2
      obtain ⟨b, of, cq, B2, d2, B3, d3, -, e, lb_, q0, q1, q2, q3, q4, i2_, i3_⟩ := DOp.elem HS.out HB.out hk2
      obtain rfl := e rfl
      obtain ⟨wi, hwi⟩ : ∃ W, wr.alloc (.cells #[.int .i64 (l[k]).code, .int .i64 (l[k]).out, .slice B2 (l[k]).name.length d2, .slice B3 (l[k]).text.length d3, .int .i64 (l[k]).arg] 27) = W := ⟨_, rfl⟩
      have hbw : Below wr.heap.size wr wi := by rw [← hwi]; exact (Below.refl _ _).alloc (Nat.le_refl _) _
      have hbx : Box wi wr.heap.size 27 [.int .i64 (l[k]).code, .int .i64 (l[k]).out, .slice B2 (l[k]).name.length d2, .slice B3 (l[k]).text.length d3, .int .i64 (l[k]).arg] := by rw [← hwi]; exact Box.new wr _ _
      have HBW := hide (HB.out.trans (hbw.mono HB.out.size))
      have p0 := hbx.cell (j := 0) rfl
      have p1 := hbx.cell (j := 1) rfl
      have p2 := hbx.cell (j := 2) rfl
      have p3 := hbx.cell (j := 3) rfl
      have p4 := hbx.cell (j := 4) rfl
      have HF := hide (cntF (l[k]).code (l[k]).out (l[k]).arg c B2 (l[k]).name.length d2 B3 (l[k]).text.length d3 g wi ((HBW.out.cell (p := ⟨g, 0, none⟩) hlt).trans HG.out) (Nat.lt_of_lt_of_le hlt HBW.out.size))
      obtain ⟨C, hC⟩ : ∃ C, opCnt (l.take k) c = C := ⟨_, rfl⟩
      rw [hC] at hle hnx ⊢
      generalize hT : ((l[k]).code == c) = T at *
      have HNX := hide hnx
      clear hbw hbx i2_ i3_ hnx hC hT
      go_wp2_with fail
      refine HF.out.mono ?_
      rintro e w7 ⟨rfl, b7⟩
      have HB7 := hide (HBW.out.trans (b7.mono HBW.out.size))
      clear b7 p0 p1 p2 p3 p4 q0 q1 q2 q3 q4
      cases T with
      | true =>
        have HE := hide (show opCnt (l.take (k + 1)) c = C + 1 from HNX.out)
        go_wp2_with fail
        go_roundw
        case rel => exact ⟨k + 1, by omega, by go_num, by rw [HE.out]; go_num, HB7⟩
        case measure => simp [intOf]; omega
      | false =>
        have HE := hide (show opCnt (l.take (k + 1)) c = C from HNX.out)
        go_wp2_with fail
        go_roundw
        case rel => exact ⟨k + 1, by omega, by go_num, by rw [HE.out], HB7⟩
        case measure => simp [intOf]; omega
    · obtain rfl : k = n := by omega
      have ht : l.take k = l := List.take_of_length_le (by rw [HN.out]; omega)
      rw [ht] at hle ⊢
      go_wp2
      go_ret
      exact ⟨rfl, HB.out⟩

set_option maxRecDepth 20000 in
set_option maxHeartbeats 3200000 in
theorem specCountOps (d : DDrv) (c : Int) (hok : oks d.cells) (hbk : bulks d.cells ≤ 1048576) (us : List Value) (w : World) (hs : Ins w d.cells us) :
    Calls Try.prog 29 #[.agg us.toArray, .int .i64 c] w fun e w' => e = .returned (.int .i64 (countOps d c)) ∧ Below w.heap.size w w' := by
  have hsx := hs
  have hbl := bulk_Drv d
  obtain ⟨A0, c0, A1, c1, A2, c2, A3, c3, rfl, h0, h1, h2, h3⟩ := DDrv.view hs
  obtain ⟨wa, hwa⟩ : ∃ wa, w.alloc (.cells #[.slice A0 d.srcs.length c0, .slice A1 d.ins.length c1, .slice A2 d.outs.length c2, .slice A3 d.ops.length c3] 41) = wa := ⟨_, rfl⟩
  have ba : Below w.heap.size w wa := by rw [← hwa]; exact (Below.refl _ _).alloc (Nat.le_refl _) _
  have bx : Box wa w.heap.size 41 [.slice A0 d.srcs.length c0, .slice A1 d.ins.length c1, .slice A2 d.outs.length c2, .slice A3 d.ops.length c3] := by rw [← hwa]; exact Box.new w _ _
  have hz : w.heap.size < wa.heap.size := bx.lt
  have x0 := bx.cell (j := 0) rfl
  have x1 := bx.cell (j := 1) rfl
  have x2 := bx.cell (j := 2) rfl
  have x3 := bx.cell (j := 3) rfl
  have HX := hide (fun W (hb : Below wa.heap.size wa W) => (bx.step hb))
  have HBA := hide ba
  have HOK := hide (specDrvOk d hok hbk _ wa (hsx.step ba))
  have HG3 := hide (h3.step ba)
  have HO := hide (show countOps d c = if drvOk d then (opCnt d.ops c : Int) else -1 from rfl)
  obtain ⟨T, hT⟩ : ∃ T, drvOk d = T := ⟨_, rfl⟩
  rw [hT] at HOK HO
  have hb3 : d.ops.length ≤ 1048576 := by omega
  clear bx ba hok hbk hs hsx h0 h1 h2 h3 hT hbl
  go_enter Try.func29, Try.ntmps29
  go_wp2_with fail
  refine HOK.out.mono ?_
  rintro e w1 ⟨rfl, b1⟩
  have HB1 := hide b1
  clear x0 x1 x2 x3 b1
  cases T with
  | false =>
    have HR := hide (show countOps d c = -1 by rw [HO.out]; rfl)
    go_wp2_with fail
    go_ret
    exact ⟨ret_i64 HR.out.symm, HBA.out.trans (HB1.out.mono HBA.out.size)⟩
  | true =>
    have HR := hide (show countOps d c = (opCnt d.ops c : Int) by rw [HO.out]; rfl)
    go_wp2_with fail
    go_loopw [5, 6] (fun s i wr => ∃ k : Nat, k ≤ d.ops.length ∧ i = .int .i64 k ∧ s = .int .i64 (opCnt (d.ops.take k) c : Int) ∧ Hid (Below wa.heap.size wa wr)) (fun _ i _ => d.ops.length - (intOf i).toNat)
    case atStart => exact ⟨0, Nat.zero_le _, rfl, rfl, HB1⟩
    case round =>
      clear HB1
      obtain ⟨k, hk, rfl, rfl, HB⟩ := hrel
      have hle := opCnt_le (d.ops.take k) c
      rw [List.length_take] at hle
      have u_ := (HX.out wr HB.out).cell (j := 3) rfl
      by_cases hk2 : k < d.ops.length
      · have k1 : (k : Int) < ((d.ops.length : Nat) : Int) := by omega
        have k0 : (0 : Int) ≤ (k : Int) := by omega
        have k2_ : (k : Int).toNat = k := by omega
        have hnx := opCnt_next (c := c) hk2
        obtain ⟨b, of, cq, B2, d2, B3, d3, -, e, lb_, q0, -, -, -, -, -, -⟩ := DOp.elem HG3.out HB.out hk2
        obtain rfl := e rfl
        obtain ⟨C, hC⟩ : ∃ C, opCnt (d.ops.take k) c = C := ⟨_, rfl⟩
        rw [hC] at hle hnx ⊢
        obtain ⟨T, hT⟩ : ∃ T, ((d.ops[k]).code == c) = T := ⟨_, rfl⟩
        rw [hT] at hnx
        obtain ⟨oc, hoc⟩ : ∃ x, (d.ops[k]).code = x := ⟨_, rfl⟩
        rw [hoc] at hT q0
        have HNX := hide hnx
        clear hnx hC hoc
        cases T with
        | true =>
          have HE := hide (show opCnt (d.ops.take (k + 1)) c = C + 1 from HNX.out)
          go_wp2_with fail
          go_roundw
          case rel => exact ⟨k + 1, by omega, by go_num, by rw [HE.out]; go_num, HB⟩
          case measure => simp [intOf]; omega
        | false =>
          have HE := hide (show opCnt (d.ops.take (k + 1)) c = C from HNX.out)
          go_wp2_with fail
          go_roundw
          case rel => exact ⟨k + 1, by omega, by go_num, by rw [HE.out], HB⟩
          case measure => simp [intOf]; omega
      · have hke : k = d.ops.length := by omega
        have ht : d.ops.take k = d.ops := List.take_of_length_le (by omega)
        rw [ht] at hle ⊢
        have kk : ¬ (k : Int) < ((d.ops.length : Nat) : Int) := by omega
        clear hke ht
        go_wp2
        go_ret
        exact ⟨ret_i64 HR.out.symm, HBA.out.trans (HB.out.mono HBA.out.size)⟩

set_option maxRecDepth 20000 in
set_option maxHeartbeats 3200000 in
theorem implCountOps (d : DDrv) (c : Int) (hok : oks d.cells) (hbk : bulks d.cells ≤ 1048576) (us : List Value) (w : World) (hs : Ins w d.cells us) :
    Calls Try.prog 30 #[.agg us.toArray, .int .i64 c] w fun e w' => e = .returned (.int .i64 (countOps d c)) ∧ Below w.heap.size w w' := by
  have hsx := hs
  have hbl := bulk_Drv d
  obtain ⟨A0, c0, A1, c1, A2, c2, A3, c3, rfl, h0, h1, h2, h3⟩ := DDrv.view hs
  obtain ⟨wz, hwz⟩ : ∃ wz, w.alloc (.cells #[.slice A0 d.srcs.length c0, .slice A1 d.ins.length c1, .slice A2 d.outs.length c2, .slice A3 d.ops.length c3] 41) = wz := ⟨_, rfl⟩
  have ba : Below w.heap.size w wz := by rw [← hwz]; exact (Below.refl _ _).alloc (Nat.le_refl _) _
  have bx : Box wz w.heap.size 41 [.slice A0 d.srcs.length c0, .slice A1 d.ins.length c1, .slice A2 d.outs.length c2, .slice A3 d.ops.length c3] := by rw [← hwz]; exact Box.new w _ _
  have hz : w.heap.size < wz.heap.size := bx.lt
  obtain ⟨wa, hwa⟩ : ∃ W, wz.alloc (.cells #[.int .i64 c] 3) = W := ⟨_, rfl⟩
  have bza : Below wz.heap.size wz wa := by rw [← hwa]; exact (Below.refl _ _).alloc (Nat.le_refl _) _
  have bxc : Box wa wz.heap.size 3 [.int .i64 c] := by rw [← hwa]; exact Box.new wz _ _
  have baw : Below w.heap.size w wa := ba.trans (bza.mono ba.size)
  have bxx := bx.step bza
  have x0 := bxx.cell (j := 0) rfl
  have x1 := bxx.cell (j := 1) rfl
  have x2 := bxx.cell (j := 2) rfl
  have x3 := bxx.cell (j := 3) rfl
  have HX := hide (fun W (hb : Below wa.heap.size wa W) => (bxx.step hb))
  have HXC := hide (fun W (hb : Below wa.heap.size wa W) => (bxc.step hb))
  have HBA := hide baw
  have HOK := hide (implDrvOk d hok hbk _ wa (hsx.step baw))
  have HG3 := hide (h3.step baw)
  have HO := hide (show countOps d c = if drvOk d then (opCnt d.ops c : Int) else -1 from rfl)
  obtain ⟨T, hT⟩ : ∃ T, drvOk d = T := ⟨_, rfl⟩
  rw [hT] at HOK HO
  have hb3 : d.ops.length ≤ 1048576 := by omega
  have hzl := bxc.lt
  clear bx ba bza baw bxx bxc hok hbk hs hsx h0 h1 h2 h3 hT hbl
  go_enter Try.func30, Try.ntmps30
  go_wp2_with fail
  refine HOK.out.mono ?_
  rintro e w1 ⟨rfl, b1⟩
  have HB1 := hide b1
  have y3 := (HX.out w1 b1).cell (j := 3) rfl
  have hcell := (HXC.out w1 b1).cell (j := 0) rfl
  have HC := hide (countOfOp d.ops c A3 d.ops.length c3 rfl hb3 wz.heap.size w1 (HG3.out.step b1) hcell (Nat.lt_of_lt_of_le hzl b1.size))
  clear x0 x1 x2 x3 b1 hcell
  cases T with
  | false =>
    have HR := hide (show countOps d c = -1 by rw [HO.out]; rfl)
    go_wp2_with fail
    go_ret
    exact ⟨ret_i64 HR.out.symm, HBA.out.trans (HB1.out.mono HBA.out.size)⟩
  | true =>
    have HR := hide (show countOps d c = (opCnt d.ops c : Int) by rw [HO.out]; rfl)
    go_wp2_with fail
    refine HC.out.mono ?_
    rintro e w2 ⟨rfl, b2⟩
    have HB2 := hide ((HBA.out.trans (HB1.out.mono HBA.out.size)).trans (b2.mono (HBA.out.trans (HB1.out.mono HBA.out.size)).size))
    clear b2
    go_wp2_with fail
    go_ret
    exact ⟨ret_i64 HR.out.symm, HB2.out⟩

theorem lawCountOps (x0 : DDrv) (o0 : oks x0.cells) (a1 : Int) (w : World) (u0 : List Value) (E0 : List Nat) (h0 : Lies w x0.cells u0 E0) (ha1 : -9223372036854775808 ≤ a1 ∧ a1 ≤ 9223372036854775807) :
    Calls Try.prog 7 #[.agg u0.toArray, .int .i64 a1] w fun e w' => e = .returned (.bool true) ∧ Below w.heap.size w w' := by
  refine walkCountOps x0 a1 (countOps x0 a1) ha1 ?_ ?_ w u0 E0 h0
  · intro hb u E W h
    exact specCountOps x0 a1 o0 hb u W ⟨E, h⟩
  · intro hb u E W h
    exact implCountOps x0 a1 o0 hb u W ⟨E, h⟩

end Go.Proofs.Ytnloknhcdlannaa


namespace Go.Proofs.Ytnloknhcdlannaa.fnExactCountOps
open Go.ChangeShapes Go.WideShapes Go.ChangeAt Go.RowKit
open Go.ChangeMaps (open_string shut_string)
set_option linter.unusedVariables false

set_option maxRecDepth 100000 in
theorem lifted (os : Os) (started : os.Started) (H : Type) (enc : TypeId × Value → H) :
    ReturnsInHanded {} Try.checked os 7 .any (Rows.fnExactCountOpsSpec.pre6 enc Try.prog Try.f7 Rows.fnExactCountOpsRow.domain false) (Rows.fnExactCountOpsSpec.post enc Try.prog Try.f7 false true false false) := by
  refine returnsInHanded_of_change (C := Try.checked) own started (by kernel_rfl) Try.func7
    (ChangeSpec.witness6 (enc := enc) (C := Try.checked) false ⟨#[], #[.agg #[.slice none 0 0, .slice none 0 0, .slice none 0 0, .slice none 0 0], .int .i64 0], []⟩ 8 (by kernel_rfl) (by kernel_rfl) (by kernel_rfl) (by kernel_rfl)) ?_
  intro W base args ds gs before hval0 hW hcnd _
  have hval : ∀ (j : Nat) t v, Try.f7.params[j]? = some t → args[j]? = some v → Value.okWide Try.prog W .any base t v := hval0
  have hW' := hW
  obtain ⟨p, q, hA0, hV, rfl, hfz, hnd⟩ := hW
  have hA : DataW.TrodAll enc Try.prog W 0 (fun _ => true) true Try.f7.params.toList args.toList ds p := hA0
  rw [Try.params7] at hA hval
  obtain ⟨v0, vs0, d0, ds0, p0, q0, hargs, rfl, rfl, h0, r0⟩ := trodAll_cons hA
  obtain ⟨v1, vs1, d1, ds1, p1, q1, rfl, rfl, rfl, h1, r1⟩ := trodAll_cons r0
  obtain ⟨rfl, rfl, rfl⟩ := trodAll_nil r1
  obtain rfl : args = #[v0, v1] := by cases args; simp_all
  obtain ⟨rfl, rfl⟩ := trodVars_none hV
  have k0 := h0
  have lt0 : ∀ x ∈ p0, x.block < W.heap.size := by obtain ⟨m, hm⟩ := k0; exact DataW.trod_lt m _ _ _ hm
  obtain ⟨cs0, rfl, hsz0⟩ := okWide_struct Try.underlying35 (hval 0 35 v0 rfl rfl)
  obtain ⟨x0, o0, E0, w0⟩ : ∃ x : DDrv, oks x.cells ∧ ∃ F, Lies W x.cells cs0.toList F := by
    obtain ⟨fuel, hf⟩ := h0
    have := Drv_of_trod fuel _ _ hf
    simpa [Value.cells] using this
  obtain ⟨a1, rfl, rfl, rfl, hz1⟩ := open_int Try.underlying3 (hval 1 3 v1 rfl rfl) h1
  clear hA0 hval0
  refine (lawCountOps x0 o0 a1 W cs0.toList E0 w0 (i64_of_wf hz1)).mono fun e W' ⟨he, bel⟩ => ?_
  subst he
  exact ⟨_, rfl, _, _, _, [], _, [], hW', trodAll_mk1 (shut_bool Try.underlying4 _), (trodAll_cons_mk (Below.trod laidOut (by kernel_rfl) (of_decide_eq_true (by kernel_rfl)) k0 bel lt0) (trodAll_cons_mk (shut_int Try.underlying3 hz1) trodAll_mk0)), rfl, bel.frame _, fun h => by cases h⟩

theorem over : Rows.fnExactCountOpsRow.holds Try.pinned (OpenSpec.ofChange Rows.fnExactCountOpsSpec) :=
  OpenClaim.holds_of_wide 7 Try.f7 rfl rfl rfl rfl rfl rfl rfl ⟨rfl, rfl, rfl, rfl, rfl⟩ rfl rfl rfl rfl rfl (by kernel_rfl) Try.func7 (by kernel_rfl)
    (of_decide_eq_true (by kernel_rfl)) (by unfold Func.isWrapper; first | (rw [if_pos (by decide +kernel)]; kernel_rfl) | (rw [if_neg (by decide +kernel)]; exact ⟨rfl, rfl⟩))
    (fun os started H enc _ => lifted os started H enc)

/-- The statement. -/
theorem proved : Rows.FnExactCountOpsSaid := over
end Go.Proofs.Ytnloknhcdlannaa.fnExactCountOps
