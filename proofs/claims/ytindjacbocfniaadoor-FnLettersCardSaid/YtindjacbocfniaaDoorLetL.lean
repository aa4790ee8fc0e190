/-
  The walk of the law FnLetters: it returns true, and writes nothing that was there.
-/
import Derived.Test.YtindjacbocfniaaDoorLetP
import Derived.Test.YtindjacbocfniaaDoorLetD
namespace Go.Proofs.YtindjacbocfniaaDoor
open Go.RowKit
set_option linter.unusedVariables false

set_option maxRecDepth 20000 in
set_option maxHeartbeats 4000000 in
theorem lawLetters (l : List Int) (hB : Byt l) (v : Value) (w : World) (hv : Rd w v (bs l)) (hT : Tab w) :
    Calls Tryd.prog 5 #[v] w fun e w' => e = .returned (.bool true) ∧ Below w.heap.size w w' := by
  obtain ⟨i0, hi0, hz0, hz1, hz2⟩ := info_parts u8info
  have HV := hide hv
  have HT := hide hT
  have h0 := drawBase32 l hB v w hv
  clear hv hT
  go_enter Tryd.func5, Tryd.ntmps5
  go_wp2_with fail
  refine h0.mono ?_
  rintro e w1 ⟨v1, l1, rfl, hB1, hl1, o1, b1⟩
  clear h0
  go_wp2_with fail
  refine (implBase32 l1 hB1 v1 w1 o1.rd).mono ?_
  rintro e w2 ⟨v2, rfl, o2, b2⟩
  have c2 : Below w.heap.size w w2 := b1.trans (b2.mono b1.size)
  have r1 := (o1.step b2).rd
  obtain ⟨A1, cc1, rfl, hcc1, hcm1, _⟩ := id r1
  rw [bs_length] at *
  unfold maxLen at hcm1
  have R1 := hide r1
  have O2 := hide o2
  clear o1 r1 o2
  go_upto_if 20 with (fail)
  go_cut [] (fun wx => Below w2.heap.size w2 wx)
  case first =>
    by_cases h64 : l1.length ≤ 64
    · have hrd := b32Read_b32 l1 hB1 h64
      have hcall := implB32Read (base32 l1) (base32_byt l1) v2 w2 O2.out.rd
      rw [hrd] at hcall
      clear hrd
      go_wp2_with fail
      refine hcall.mono ?_
      rintro e w3 ⟨v3, rfl, o3, b3⟩
      go_wp2_with fail
      refine (sameBytes l1 v3 _ w3 o3.rd (R1.out.below b3)).mono ?_
      rintro e w4 ⟨rfl, b4⟩
      go_wp2_with fail
      go_meet
      exact b3.trans (b4.mono b3.size)
    · go_wp2
      go_meet
      exact Below.refl _ _
  case rest =>
    have c3 : Below w.heap.size w wc := c2.trans (hcut.mono c2.size)
    clear hcut R1 O2
    go_wp2_with fail
    refine (drawBase32Read l hB v wc (HV.out.below c3)).mono ?_
    rintro e w5 ⟨v5, l5, rfl, hB5, hl5, o5, b5⟩
    have c5 := c3.trans (b5.mono c3.size)
    have hread := base32_read l5 hB5
    have hBy := b32Read_byt l5
    have hcall := implB32Read l5 hB5 v5 w5 o5.rd
    obtain ⟨y, hy⟩ : ∃ y, (b32Read l5).1 = y := ⟨_, rfl⟩
    obtain ⟨fine, hfine⟩ : ∃ fine, (b32Read l5).2 = fine := ⟨_, rfl⟩
    rw [hy] at hread hBy
    rw [hfine] at hread
    rw [hy, hfine] at hcall
    have HREAD := hide hread
    clear hy hfine hread
    go_wp2_with fail
    refine hcall.mono ?_
    rintro e w6 ⟨v6, rfl, o6, b6⟩
    have c6 := c5.trans (b6.mono c5.size)
    clear hcall
    go_wp2_with fail
    refine (drawNameOf l hB v w6 (HV.out.below c6)).mono ?_
    rintro e w7 ⟨k, v7, l7, rfl, hk, hB7, hl7, o7, b7⟩
    have c7 := c6.trans (b7.mono c6.size)
    have hname : nameOf k l7 = b32 ((shaL (k :: l7)).take 10) := by rw [nameOf, if_neg (by omega)]
    have hcall := implNameOf k hk l7 hB7 v7 w7 o7.rd (HT.out.step c7)
    rw [hname] at hcall
    have hnok := nameOk_b32 ((shaL (k :: l7)).take 10) (sha10_len _)
    have hBn := b32_byt ((shaL (k :: l7)).take 10)
    have hln : (b32 ((shaL (k :: l7)).take 10)).length ≤ 1099511627776 := by rw [b32_len, sha10_len]; omega
    go_wp2_with fail
    refine hcall.mono ?_
    rintro e w8 ⟨v8, rfl, o8, b8⟩
    have c8 := c7.trans (b8.mono c7.size)
    have o7b := o7.step b8
    have hsh : sha256 (k :: l7) = shaL (k :: l7) := by rw [sha256, if_neg (by simp; omega)]
    have hB8 : Byt (k :: l7) := (Byt.one hk.1 hk.2).app hB7
    have own1 : (w8.alloc (.cells #[.int .u8 k] 5)).ownsRow w8.heap.size 5 1 (.slice (some ⟨w8.heap.size, 0, none⟩) 1 1) 1 (bs [k]) := World.ownsRow_lit w8 #[.int .u8 k] 1 (by omega) (by simp [maxLen]) rfl
    clear hcall hname
    go_wp2_with (at_builtin; refine wpList_app _ rfl _ _ _ rfl w8.heap.size 5 i0 _ 1 Tryd.underlying22 hi0 hz0 hz1 hz2 rfl _ _ _ rfl own1 _ (bs l7) rfl (o7b.rd.alloc _) (bs_one l7) (by rw [bs_length]; simp only [maxLen]; omega) (by rw [bs_length]; omega) (by simp) ?_; intro v9 w9 own2 gr1)
    have b9 : Below w8.heap.size w8 w9 := Below.row ((Below.refl _ _).alloc (Nat.le_refl _) _) (by simp) own1 gr1
    have c9 := c8.trans (b9.mono c8.size)
    have r9 : Rd w9 v9 (bs (k :: l7)) := (Own.of (own_cells own2 (bs_append [k] l7).symm) (by simp [bs]; omega)).rd
    have hsha := implSha (k :: l7) hB8 v9 w9 r9 (HT.out.step c9)
    rw [hsh] at hsha
    refine hsha.mono ?_
    rintro e w10 ⟨v10, rfl, o10, b10⟩
    have c10 := c9.trans (b10.mono c9.size)
    have o8b := (o8.step b9).step b10
    have o5b := ((((o5.step b6).step b7).step b8).step b9).step b10
    have o6b := (((o6.step b7).step b8).step b9).step b10
    obtain ⟨A2, c2', rfl, hc3, hc4⟩ := own_slice o10.1
    rw [bs_length, shaL_len] at *
    obtain ⟨bb, off, rfl, hc5, hc6, r10⟩ := o10.rd.ten
    unfold maxLen at hc6
    have O8 := hide o8b
    have O5 := hide o5b
    have O6 := hide o6b
    have R10 := hide r10
    clear own1 own2 gr1 r9 hsha o8 o5 o6 o7 o7b o8b o5b o6b o10 r10 hc3 hc4
    have hten := base32_ten (k :: l7)
    have hB10 := sha10_byt (k :: l7)
    generalize b32 ((shaL (k :: l7)).take 10) = n at *
    generalize (shaL (k :: l7)).take 10 = t at *
    have HTEN := hide hten
    have HNOK := hide hnok
    clear hten hnok
    have tail : ∀ (W : World), Below w10.heap.size w10 W → Calls Tryd.prog 21 #[v8] W fun e w' => e = .returned (.bool true) ∧ Below W.heap.size W w' := fun W hb => by
      have h := implNameOk n hBn v8 W (O8.out.rd.below hb) hln
      rw [HNOK.out] at h
      exact h
    have tail2 : ∀ (W : World), Below w10.heap.size w10 W → Calls Tryd.prog 16 #[.slice (some ⟨bb, off, none⟩) 10 c2'] W fun e w' => ∃ v', e = .returned v' ∧ Own 5 W.heap.size w'.heap.size w' v' (bs n) ∧ Below W.heap.size W w' := fun W hb => by
      have h := implBase32 t hB10 _ W (R10.out.below hb)
      rw [HTEN.out] at h
      exact h
    have T1 := hide tail
    have T2 := hide tail2
    clear tail tail2 b9 b10 c9
    cases fine with
    | false =>
      go_wp2_with fail
      refine (T1.out w10 (Below.refl _ _)).mono ?_
      rintro e w11 ⟨rfl, b11⟩
      go_wp2_with fail
      refine (T2.out w11 b11).mono ?_
      rintro e w12 ⟨v12, rfl, o12, b12⟩
      have c12 := b11.trans (b12.mono b11.size)
      go_wp2_with fail
      refine (sameBytes n v8 v12 w12 (O8.out.rd.below c12) o12.rd).mono ?_
      rintro e w13 ⟨rfl, b13⟩
      have c13 := c12.trans (b13.mono c12.size)
      go_wp2_with fail
      go_ret
      exact ⟨rfl, c10.trans (c13.mono c10.size)⟩
    | true =>
      have hy := implBase32 y hBy v6 w10 O6.out.rd
      rw [HREAD.out rfl] at hy
      go_wp2_with fail
      refine hy.mono ?_
      rintro e w11 ⟨v11, rfl, o11, b11⟩
      clear hy
      go_wp2_with fail
      refine (sameBytes l5 v11 v5 w11 o11.rd (O5.out.rd.below b11)).mono ?_
      rintro e w12 ⟨rfl, b12⟩
      have c12 := b11.trans (b12.mono b11.size)
      go_wp2_with fail
      refine (T1.out w12 c12).mono ?_
      rintro e w13 ⟨rfl, b13⟩
      have c13 := c12.trans (b13.mono c12.size)
      go_wp2_with fail
      refine (T2.out w13 c13).mono ?_
      rintro e w14 ⟨v14, rfl, o14, b14⟩
      have c14 := c13.trans (b14.mono c13.size)
      go_wp2_with fail
      refine (sameBytes n v8 v14 w14 (O8.out.rd.below c14) o14.rd).mono ?_
      rintro e w15 ⟨rfl, b15⟩
      have c15 := c14.trans (b15.mono c14.size)
      go_wp2_with fail
      go_ret
      exact ⟨rfl, c10.trans (c15.mono c10.size)⟩

end Go.Proofs.YtindjacbocfniaaDoor
