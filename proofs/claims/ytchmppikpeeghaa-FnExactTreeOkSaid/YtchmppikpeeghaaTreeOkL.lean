/-
  The walk of the law FnExactTreeOk.
-/
import Derived.Test.YtchmppikpeeghaaTreeOkI
import Derived.Deep.RegionWith
namespace Go.Proofs.Ytchmppikpeeghaa
open Go.RowKit
set_option linter.unusedVariables false

set_option maxRecDepth 20000 in
set_option maxHeartbeats 1600000 in
theorem lawTreeOk (t : T) (hB : t.Byts) (q : Q) (w : World) (hq : TIn w t q) :
    Calls Try.prog 3 #[q.val] w fun e w' => e = .returned (.bool true) ∧ Below w.heap.size w w' := by
  obtain ⟨wa, hwa, box, ba, hz⟩ := boxed w q 26
  have HBOX := hide box
  have x0 := box.c0
  have x1 := box.c1
  have x2 := box.c2
  have x3 := box.c3
  have hsz := szTree t q 1048576 wa (by omega) (by omega) (hq.below ba)
  obtain ⟨S, hS⟩ : ∃ S, rest 1048576 t.bulk = S := ⟨_, rfl⟩
  rw [hS] at hsz
  have HSZ := hide hsz
  by_cases hbk : 1048576 < t.bulk
  · have hSn : S = -1 := by rw [← hS, rest, if_neg (by omega)]
    subst hSn
    clear hS hsz hB hq box
    go_enter Try.func3, Try.ntmps3
    go_wp2_with fail
    refine HSZ.out.mono ?_
    rintro e w1 ⟨rfl, b1⟩
    go_wp2
    go_ret
    exact ⟨rfl, ba.trans (b1.mono ba.size)⟩
  · have hSn : 0 ≤ S := by rw [← hS, rest, if_pos (by omega)]; omega
    have hto := fun W (hb : Below w.heap.size w W) => toTree t q W (by omega) (hq.below hb)
    have HTO := hide hto
    obtain ⟨V, hV⟩ : ∃ V, treeOk t = V := ⟨_, rfl⟩
    have hspec := fun (q' : Q) (W : World) (h : TIn W t q') => specTreeOk t hB q' W h
    have himpl := fun (q' : Q) (W : World) (h : TIn W t q') => implTreeOk t hB q' W h
    rw [hV] at hspec himpl
    have HSP := hide hspec
    have HIM := hide himpl
    have hnn : (V != V) = false := by simp
    clear hS hsz hq box hspec himpl hto hV hbk hB
    go_enter Try.func3, Try.ntmps3
    go_wp2_with fail
    refine HSZ.out.mono ?_
    rintro e w1 ⟨rfl, b1⟩
    have box1 := HBOX.out.step b1
    have d1 := ba.trans (b1.mono ba.size)
    have x0 := box1.c0
    have x1 := box1.c1
    have x2 := box1.c2
    have x3 := box1.c3
    go_wp2_with fail
    refine (HTO.out w1 d1).mono ?_
    rintro e w2 ⟨q2, rfl, o2, b2⟩
    have t2 := hide o2.rd
    have box2 := box1.step b2
    have d2 := d1.trans (b2.mono d1.size)
    clear x0 x1 x2 x3 o2
    go_wp2_with fail
    refine (HSP.out q2 w2 t2.out).mono ?_
    rintro e w3 ⟨rfl, b3⟩
    have box3 := box2.step b3
    have d3 := d2.trans (b3.mono d2.size)
    have x0 := box3.c0
    have x1 := box3.c1
    have x2 := box3.c2
    have x3 := box3.c3
    go_wp2_with fail
    refine (HTO.out w3 d3).mono ?_
    rintro e w4 ⟨q4, rfl, o4, b4⟩
    have d4 := d3.trans (b4.mono d3.size)
    have box4 := box3.step b4
    obtain ⟨wz, hwz, hth4, wk, hwk, kid, bk, zk⟩ := made4 w4 31 (.int .i64 0) (.slice none 0 0) (.slice none 0 0) (.slice none 0 0) (.int .i64 q4.k) q4.d q4.n q4.c
    have hone := o4.one
    have t4 := o4.rd.below bk
    have boxk := box4.step bk
    have dk := d4.trans (bk.mono d4.size)
    rw [← hwz] at hth4
    have HTH4 := hide hth4
    have HONE := hide hone
    have HWK := hide hwk
    have HWZ := hide hwz
    have HKID := hide kid
    have y0 := kid.c0
    have y1 := kid.c1
    have y2 := kid.c2
    have y3 := kid.c3
    have HBXK := hide boxk
    have HDK := hide dk
    have HT4 := hide t4
    clear x0 x1 x2 x3 o4 hth4 hone hwk hwz kid boxk dk t4 box1 box2 box3 box4 t2 bk zk b1 b2 b3 b4 d1 d2 d3 d4 ba
    go_wp2_with ((with_reducible refine at_none ?_); refine wpList_store_mid rfl _ _ _ rfl w4.heap.size 0 #[.int .i64 q4.k, q4.d, q4.n, q4.c] rfl rfl HTH4.out (by kernel_rfl) HONE.out ?_; rw [HWZ.out]; change wpList _ _ _ _ _ (wz.setCells w4.heap.size 0 [.int .i64 q4.k, q4.d, q4.n, q4.c]); rw [HWK.out])
    refine (HIM.out q4 wk HT4.out).mono ?_
    rintro e w5 ⟨rfl, b5⟩
    clear y0 y1 y2 y3
    go_upto_region 10 with (fail)
    have kid5 := HKID.out.step b5
    have box5 := HBXK.out.step b5
    have t5 := HT4.out.below b5
    have d5 := HDK.out.trans (b5.mono HDK.out.size)
    have y0 := kid5.c0
    have y1 := kid5.c1
    have y2 := kid5.c2
    have y3 := kid5.c3
    have x0 := box5.c0
    have x1 := box5.c1
    have x2 := box5.c2
    have x3 := box5.c3
    have hdr : Below w5.heap.size w5 w5.drew := (Below.refl _ _).drew
    have HK5 := hide kid5
    have HB5 := hide box5
    have HD5 := hide d5
    have HT5 := hide t5
    have HDR := hide hdr
    clear kid5 box5 d5 t5 hdr b5
    go_region_with (first
      | (go_at_call 16; refine (HTO.out w5.drew (HD5.out.trans (HDR.out.mono HD5.out.size))).mono ?_; rintro e w6 ⟨q6, rfl, o6, b6⟩; have y0 := (HK5.out.step (HDR.out.trans b6)).c0; have y1 := (HK5.out.step (HDR.out.trans b6)).c1; have y2 := (HK5.out.step (HDR.out.trans b6)).c2; have y3 := (HK5.out.step (HDR.out.trans b6)).c3)
      | (go_at_call 18; refine (eqTree t q4 q6 w6 (HT5.out.below (HDR.out.trans b6)) o6.rd).mono ?_; rintro e w7 ⟨rfl, b7⟩))
    all_goals
      have hfin := HD5.out.trans ((HDR.out.trans (b6.trans (b7.mono b6.size))).mono HD5.out.size)
      have HF := hide hfin
      clear hfin
      go_wp2
      go_ret
      exact ⟨rfl, HF.out⟩

end Go.Proofs.Ytchmppikpeeghaa
