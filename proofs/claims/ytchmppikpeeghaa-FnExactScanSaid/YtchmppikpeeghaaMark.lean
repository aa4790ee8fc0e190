/-
  Marks over an owned slice of names: they are written inside the owned blocks alone.
-/
import Derived.Test.YtchmppikpeeghaaTreeTo3
namespace Go.Proofs.Ytchmppikpeeghaa
open Go.RowKit
set_option linter.unusedVariables false

theorem outside_in {lo hi lo' hi' : Nat} {w w' : World} (h : Outside lo hi w w') (h1 : lo' ≤ lo) (h2 : hi ≤ hi') : Outside lo' hi' w w' :=
  ⟨h.os, h.tape, h.output, h.size, fun k hk ho => h.block k hk (by omega)⟩
set_option maxRecDepth 20000 in
set_option maxHeartbeats 1600000 in
theorem markNames (ns : List (List Int)) (v : Value) (s : Int) (lo hi : Nat) (w : World) (h : OwnN lo hi w v ns) (hl : sumLen ns ≤ 1099511627776) (hs : 0 ≤ s ∧ s + sumLen ns ≤ 1099511627776) :
    Calls Try.prog 36 #[v, .int .i64 s] w fun e w' => e = .returned (.int .i64 (s + sumLen ns)) ∧ Outside lo hi w w' := by
  obtain ⟨us, m, h1, hm, hch⟩ := h
  have hul : us.length = ns.length := hch.len
  obtain ⟨N, hN⟩ : ∃ N, ns.length = N := ⟨_, rfl⟩
  obtain ⟨A, c, hv, hc1, hc2, _⟩ := h1.rd
  subst hv
  rw [hul, hN] at h1 hc1 ⊢
  unfold maxLen at hc2
  obtain ⟨S, hS⟩ : ∃ S, sumLen ns = S := ⟨_, rfl⟩
  rw [hS] at hl hs ⊢
  obtain ⟨hs0, hs1⟩ := hs
  have HSB := hide (fun j => hS ▸ sumLen_take ns j)
  have HSS := hide hS
  have HUL := hide hul
  have HNL := hide hN
  clear hS hul hN
  go_enter Try.func36, Try.ntmps36
  go_wp2
  go_loopw [1, 5] (fun q i wr => ∃ j lj z : Nat, j ≤ N ∧ m ≤ lj ∧ i = .int .i64 j ∧ q = .int .i64 (s + z) ∧ Hid (sumLen (ns.take j) = z ∧ Own 22 lo m wr (.slice A N c) us ∧ Chain wr lj (ns.drop j) (us.drop j) hi ∧ Outside lo hi w wr))
    (fun _ i _ => N - (intOf i).toNat)
  case atStart => exact ⟨0, m, 0, Nat.zero_le _, Nat.le_refl _, rfl, by go_num, hide ⟨by simp [sumLen], h1, hch, ⟨rfl, rfl, rfl, Nat.le_refl _, fun _ _ _ => rfl⟩⟩⟩
  case round =>
    obtain ⟨j, lj, z, hj, hlj, rfl, rfl, HR⟩ := hrel
    by_cases hlt : j < N
    · obtain ⟨hz, hrow, hcj, hout⟩ := HR.out
      have hjn : j < ns.length := by rw [HNL.out]; exact hlt
      rw [List.drop_eq_getElem_cons hjn] at hcj
      obtain ⟨u, r, m', hur, ho, hm', hcr⟩ := hcj
      have hju : j < us.length := by rw [HUL.out]; exact hjn
      rw [List.drop_eq_getElem_cons hju] at hur
      injection hur with hu1 hu2
      have hget : us[j]? = some u := by rw [List.getElem?_eq_getElem hju, hu1]
      obtain ⟨A', c', hA', _, _, hrd⟩ := hrow.rd
      injection hA' with hA1 hA2 hA3
      obtain ⟨b, off, hb1, hblt, hcell⟩ := hrd (by rw [HUL.out]; omega)
      have hb2 : A = some ⟨b, off, none⟩ := hA1.trans hb1
      subst hb2
      have q1 := hcell j u hget
      have hnx := sumLen_next hjn
      have hgd : ns.getD j [] = ns[j] := by simp [List.getD, List.getElem?_eq_getElem hjn]
      have hsb := HSB.out (j + 1)
      rw [hnx, hz, hgd] at hsb
      have hmk := markBytes ns[j] u (s + z) lj m' wr ho (by omega) ⟨by omega, by omega⟩
      have hle := hcr.le
      have HMK := hide hmk
      have HROW := hide hrow
      have HCR := hide hcr
      have HOUT := hide hout
      have HNX : Hid (sumLen (ns.take (j + 1)) = z + (ns[j]).length) := hide (by rw [hnx, hz, hgd])
      have HU2 := hide hu2
      generalize (ns[j]).length = Z at *
      have k1 : (j : Int) < (N : Int) := by omega
      clear hmk hrow hcr hout hnx hu2 hu1 ho hz hcell hgd hget hrd HR hA1 hb1 hA2 hA3
      go_wp2_with fail
      refine HMK.out.mono ?_
      rintro e w2 ⟨rfl, _, o2⟩
      have hrel2 : sumLen (ns.take (j + 1)) = z + Z ∧ Own 22 lo m w2 (.slice (some ⟨b, off, none⟩) N c) us ∧ Chain w2 m' (ns.drop (j + 1)) (us.drop (j + 1)) hi ∧ Outside lo hi w w2 :=
        ⟨HNX.out, HROW.out.outside o2 (.inl hlj), by rw [HU2.out]; exact HCR.out.out o2 (Nat.le_refl _), HOUT.out.trans (outside_in o2 (by omega) (by omega))⟩
      have HREL := hide hrel2
      clear hrel2 q1 o2
      go_wp2_with fail
      go_roundw
      case rel => exact ⟨j + 1, m', z + Z, by omega, by omega, by go_num, by go_num, HREL⟩
      case measure => simp [intOf]; omega
    · obtain rfl : j = N := by omega
      have hz : z = S := by
        rw [← HR.out.1, List.take_of_length_le (by rw [HNL.out]; omega), HSS.out]
      subst hz
      have HO := hide HR.out.2.2.2
      clear HR
      go_wp2
      go_ret
      exact ⟨rfl, HO.out⟩

end Go.Proofs.Ytchmppikpeeghaa
