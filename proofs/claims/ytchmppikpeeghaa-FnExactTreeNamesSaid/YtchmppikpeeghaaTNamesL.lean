/-
  The walk of the law FnExactTreeNames.
-/
import Derived.Test.YtchmppikpeeghaaNamesS
import Derived.Test.YtchmppikpeeghaaMarkS
import Derived.Test.YtchmppikpeeghaaMarkT
import Derived.Deep.RegionWith
namespace Go.Proofs.Ytchmppikpeeghaa
open Go.RowKit
set_option linter.unusedVariables false

theorem nmOf_bulk (t : T) : (nmOf t).length + sumLen (nmOf t) ≤ t.bulk := by
  unfold nmOf
  split
  · exact nm_bulk t
  · simp [sumLen]
theorem C4.keep {w w' : World} {g : Nat} {t : TypeId} {a b c d : Value} (h : C4 w g t a b c d) (hk : w'.heap[g]? = w.heap[g]?) : C4 w' g t a b c d := hk.trans h

set_option maxRecDepth 20000 in
set_option maxHeartbeats 3200000 in
theorem lawTreeNames (t : T) (hB : t.Byts) (q : Q) (w : World) (hq : TIn w t q) :
    Calls Try.prog 9 #[q.val] w fun e w' => e = .returned (.bool true) ∧ Below w.heap.size w w' := by
  obtain ⟨wa, hwa, box, ba, hz⟩ := boxed w q 26
  have HBOX := hide box
  have x0 := box.c0
  have x1 := box.c1
  have x2 := box.c2
  have x3 := box.c3
  have hsz := szTree t q 1048576 wa (by omega) (by omega) (hq.below ba)
  obtain ⟨S, hS⟩ : ∃ S, rest 1048576 t.bulk = S := ⟨_, rfl⟩
  rw [hS] at hsz
  have HSZ := hide hsz
  by_cases hbk : 1048576 < t.bulk
  · have hSn : S = -1 := by rw [← hS, rest, if_neg (by omega)]
    subst hSn
    clear hS hsz hB hq box
    go_enter Try.func9, Try.ntmps9
    go_wp2_with fail
    refine HSZ.out.mono ?_
    rintro e w1 ⟨rfl, b1⟩
    go_wp2
    go_ret
    exact ⟨rfl, ba.trans (b1.mono ba.size)⟩
  · have hSn : 0 ≤ S := by rw [← hS, rest, if_pos (by omega)]; omega
    have hto := fun W (hb : Below w.heap.size w W) => toTree t q W (by omega) (hq.below hb)
    have HTO := hide hto
    have hmk := t.marks_bulk
    obtain ⟨MK, hMK⟩ : ∃ MK, t.marks = MK := ⟨_, rfl⟩
    have hmark := fun (q' : Q) (s : Int) (lo hi : Nat) (W : World) (h : TOwn W t lo q' hi) (hh : hi ≤ W.heap.size) (h0 : 0 ≤ s) (h1 : s + t.marks ≤ 1099511627776) => markTree t q' s lo hi W h hh h0 h1
    rw [hMK] at hmk hmark
    have HMARK := hide hmark
    have hmk2 : MK ≤ 1048576 := by omega
    obtain ⟨R, hR⟩ : ∃ R, nmOf t = R := ⟨_, rfl⟩
    have hRl : R.length ≤ 1048576 ∧ sumLen R ≤ 1048576 := by rw [← hR]; have := nmOf_bulk t; omega
    obtain ⟨hRa, hRb⟩ := hRl
    have hspec := fun (q' : Q) (W : World) (h : TIn W t q') => specTreeNames t hB (by omega) q' W h
    have himpl := fun (q' : Q) (W : World) (h : TIn W t q') => implTreeNames t hB (by omega) q' W h
    rw [hR] at hspec himpl
    have HSP := hide hspec
    have HIM := hide himpl
    clear hS hsz hq box hspec himpl hto hbk hB hmark hMK hR
    go_enter Try.func9, Try.ntmps9
    go_wp2_with fail
    refine HSZ.out.mono ?_
    rintro e w1 ⟨rfl, b1⟩
    have box1 := HBOX.out.step b1
    have d1 := ba.trans (b1.mono ba.size)
    have x0 := box1.c0
    have x1 := box1.c1
    have x2 := box1.c2
    have x3 := box1.c3
    go_wp2_with fail
    refine (HTO.out w1 d1).mono ?_
    rintro e w2 ⟨q2, rfl, o2, b2⟩
    have t2 := hide o2.rd
    have box2 := box1.step b2
    have d2 := d1.trans (b2.mono d1.size)
    clear x0 x1 x2 x3 o2
    go_wp2_with fail
    refine (HSP.out q2 w2 t2.out).mono ?_
    rintro e w3 ⟨v3, rfl, o3, b3⟩
    have HR3 := hide o3.rd
    have box3 := box2.step b3
    have d3 := d2.trans (b3.mono d2.size)
    have x0 := box3.c0
    have x1 := box3.c1
    have x2 := box3.c2
    have x3 := box3.c3
    go_wp2_with fail
    refine (HTO.out w3 d3).mono ?_
    rintro e w4 ⟨q4, rfl, o4, b4⟩
    have d4 := d3.trans (b4.mono d3.size)
    have box4 := box3.step b4
    have r4 := b4
    obtain ⟨wz, hwz, hth4, wk, hwk, kid, bk, zk⟩ := made4 w4 31 (.int .i64 0) (.slice none 0 0) (.slice none 0 0) (.slice none 0 0) (.int .i64 q4.k) q4.d q4.n q4.c
    have hone := o4.one
    have t4 := o4.step bk
    have boxk := box4.step bk
    have dk := d4.trans (bk.mono d4.size)
    have rk := r4.trans (bk.mono r4.size)
    have hl4 : w3.heap.size ≤ w4.heap.size := b4.size
    have hl3 : w2.heap.size ≤ w3.heap.size := b3.size
    have hlw : w.heap.size < w2.heap.size := by have := d2.size; have := b2.size; have := b1.size; omega
    rw [← hwz] at hth4
    have HTH4 := hide hth4
    have HONE := hide hone
    have HWK := hide hwk
    have HWZ := hide hwz
    have HKID := hide kid
    have y0 := kid.c0
    have y1 := kid.c1
    have y2 := kid.c2
    have y3 := kid.c3
    have HBXK := hide boxk
    have HDK := hide dk
    have HT4 := hide t4
    have HRK := hide rk
    have HZK := hide zk
    clear x0 x1 x2 x3 o4 hth4 hone hwk hwz kid boxk dk t4 box1 box2 box3 box4 t2 bk zk b1 b2 b3 b4 d1 d2 d3 d4 ba o3 r4 rk
    go_wp2_with ((with_reducible refine at_none ?_); refine wpList_store_mid rfl _ _ _ rfl w4.heap.size 0 #[.int .i64 q4.k, q4.d, q4.n, q4.c] rfl rfl HTH4.out (by kernel_rfl) HONE.out ?_; rw [HWZ.out]; change wpList _ _ _ _ _ (wz.setCells w4.heap.size 0 [.int .i64 q4.k, q4.d, q4.n, q4.c]); rw [HWK.out])
    refine (HIM.out q4 wk HT4.out.rd).mono ?_
    rintro e w5 ⟨v5, rfl, o5, b5⟩
    have kid5 := HKID.out.step b5
    have box5 := HBXK.out.step b5
    have t5 := HT4.out.step b5
    have r5 := HRK.out.trans (b5.mono HRK.out.size)
    have d5 := HDK.out.trans (b5.mono HDK.out.size)
    have hz5 : wk.heap.size ≤ w5.heap.size := b5.size
    clear y0 y1 y2 y3 b5
    go_wp2_with fail
    refine (eqNames R v5 v3 w5 o5.rd (HR3.out.below r5)).mono ?_
    rintro e w6 ⟨rfl, b6⟩
    go_upto_region 10 with (fail)
    have kid6 := kid5.step b6
    have box6 := box5.step b6
    have t6 := t5.step b6
    have r6 := r5.trans (b6.mono r5.size)
    have o6 := o5.step b6
    have d6 := d5.trans (b6.mono d5.size)
    have hz6 : w5.heap.size ≤ w6.heap.size := b6.size
    have y0 := kid6.c0
    have y1 := kid6.c1
    have y2 := kid6.c2
    have y3 := kid6.c3
    have x0 := box6.c0
    have x1 := box6.c1
    have x2 := box6.c2
    have x3 := box6.c3
    have hdr : Below w6.heap.size w6 w6.drew := (Below.refl _ _).drew
    have HK6 := hide kid6
    have HB6 := hide box6
    have HD6 := hide d6
    have HT6 := hide t6
    have HR6 := hide r6
    have HO6 := hide o6
    have HDR := hide hdr
    clear kid6 box6 d6 t6 hdr b6 r6 o6 kid5 box5 d5 t5 r5 o5
    go_cut [31] (fun v wx => v = .bool false ∧ Below w6.heap.size w6 wx)
    case first =>
      go_region_with (first
        | (go_at_call 16; refine (HTO.out w6.drew (HD6.out.trans (HDR.out.mono HD6.out.size))).mono ?_; rintro e w7 ⟨q7, rfl, o7, b7⟩; have y0 := (HK6.out.step (HDR.out.trans b7)).c0; have y1 := (HK6.out.step (HDR.out.trans b7)).c1; have y2 := (HK6.out.step (HDR.out.trans b7)).c2; have y3 := (HK6.out.step (HDR.out.trans b7)).c3)
        | (go_at_call 18; refine (eqTree t q4 q7 w7 (HT6.out.rd.below (HDR.out.trans b7)) o7.rd).mono ?_; rintro e w8 ⟨rfl, b8⟩))
      all_goals
        have hfin := HDR.out.trans (b7.trans (b8.mono b7.size))
        have HF := hide hfin
        clear hfin
        go_wp2
        go_meet
        exact ⟨rfl, HF.out⟩
    case rest =>
      clear y0 y1 y2 y3 x0 x1 x2 x3
      obtain ⟨rfl, bc⟩ := hcut
      have kidc := HK6.out.step bc
      have boxc := HB6.out.step bc
      have tc := HT6.out.step bc
      have rc := HR6.out.trans (bc.mono HR6.out.size)
      have oc := HO6.out.step bc
      have dc := HD6.out.trans (bc.mono HD6.out.size)
      have hzc : w6.heap.size ≤ wc.heap.size := bc.size
      have y0 := kidc.c0
      have y1 := kidc.c1
      have y2 := kidc.c2
      have y3 := kidc.c3
      clear HK6 HB6 HD6 HT6 HR6 HO6 HDR bc
      have BXC := hide boxc
      have DC := hide dc
      have RC := hide rc
      have OC := hide oc
      have TC := hide tc
      clear boxc dc rc oc tc
      go_wp2_with fail
      refine (HMARK.out q4 1 w3.heap.size w4.heap.size wc TC.out (by rw [HZK.out] at hz5; omega) (by omega) (by omega)).mono ?_
      rintro e w9 ⟨rfl, m9⟩
      have hz9 : wc.heap.size ≤ w9.heap.size := m9.size
      have hzk := HZK.out
      have c9 := hide (m9.below DC.out (by omega) DC.out.size)
      have o9 := OC.out.outside m9 (by omega)
      have r9 := m9.below RC.out (Nat.le_refl _) RC.out.size
      have box9 := hide (BXC.out.out m9 (.inl (by have := HBOX.out.lt; omega)))
      clear y0 y1 y2 y3 m9 hzk
      go_wp2_with fail
      refine (eqNames R v5 v3 w9 o9.rd (HR3.out.below r9)).mono ?_
      rintro e w10 ⟨rfl, b10⟩
      have c10 := hide (c9.out.trans (b10.mono c9.out.size))
      have o10 := o9.step b10
      have r10 := r9.trans (b10.mono r9.size)
      have box10 := hide (box9.out.step b10)
      have hz10 : w9.heap.size ≤ w10.heap.size := b10.size
      clear o9 r9 b10
      go_wp2_with fail
      refine (markS R v5 1 wk.heap.size w10 o10 (by omega) (by omega) (by omega)).mono ?_
      rintro e w11 ⟨rfl, o11, m11⟩
      have hzk := HZK.out
      have c11 := hide (c10.out.trans (m11.mono (by omega)))
      have r11 := hide (r10.trans (m11.mono (by omega)))
      have box11 := hide (C4.keep box10.out (m11.block _ (by have := HBOX.out.lt; omega)))
      have hz11 : w10.heap.size ≤ w11.heap.size := m11.size
      clear o10 r10 m11 hzk
      go_wp2_with fail
      refine (heldS R v5 1 w11 o11.rd (by omega) (by omega)).mono ?_
      rintro e w12 ⟨rfl, b12⟩
      have c12 := hide (c11.out.trans (b12.mono c11.out.size))
      have r12 := hide (r11.out.trans (b12.mono r11.out.size))
      have o12 := hide (o11.step b12)
      have box12 := box11.out.step b12
      have x0 := box12.c0
      have x1 := box12.c1
      have x2 := box12.c2
      have x3 := box12.c3
      clear b12 o11 box12
      go_wp2_with fail
      refine (HTO.out w12 c12.out).mono ?_
      rintro e w13 ⟨q13, rfl, o13, b13⟩
      have c13 := hide (c12.out.trans (b13.mono c12.out.size))
      have r13 := hide (r12.out.trans (b13.mono r12.out.size))
      have p13 := hide (o12.out.step b13)
      clear x0 x1 x2 x3 b13
      go_wp2_with fail
      refine (HIM.out q13 w13 o13.rd).mono ?_
      rintro e w14 ⟨v14, rfl, o14, b14⟩
      have c14 := hide (c13.out.trans (b14.mono c13.out.size))
      have r14 := r13.out.trans (b14.mono r13.out.size)
      have p14 := hide (p13.out.step b14)
      clear b14 o13
      go_wp2_with fail
      refine (eqNames R v14 v3 w14 o14.rd (HR3.out.below r14)).mono ?_
      rintro e w15 ⟨rfl, b15⟩
      have c15 := hide (c14.out.trans (b15.mono c14.out.size))
      have p15 := p14.out.step b15
      clear b15 o14 r14
      go_wp2_with fail
      refine (heldS R v5 1 w15 p15.rd (by omega) (by omega)).mono ?_
      rintro e w16 ⟨rfl, b16⟩
      have c16 := hide (c15.out.trans (b16.mono c15.out.size))
      clear b16 p15
      go_wp2_with fail
      go_ret
      exact ⟨rfl, c16.out⟩

end Go.Proofs.Ytchmppikpeeghaa
