
/-
  Base32: the model's characters.
-/
import Derived.Test.YtnloknhcdlannaaDoorBytes
import Derived.Test.YtnloknhcdlannaaDoorOwn
import Derived.Test.YtnloknhcdlannaaDoorB32P
namespace Go.Proofs.YtnloknhcdlannaaDoor
open Go.RowKit

set_option maxRecDepth 20000 in
set_option maxHeartbeats 1600000 in
theorem specBase (l : List Int) (hB : Byt l) (v : Value) (w : World) (hv : Rd w v (bs l)) (hl : l.length ≤ 1000000) :
    Calls Tryd.prog 44 #[v] w fun e w' => ∃ v', e = .returned v' ∧ Own 5 w.heap.size w'.heap.size w' v' (bs (b32 l)) ∧ Below w.heap.size w w' := by
  obtain ⟨i0, hi0, hz0, hz1, hz2⟩ := info_parts u8info
  obtain ⟨A, c, hV, hc1, hc2, hrd⟩ := id hv
  rw [bs_length] at *
  unfold maxLen at hc2
  subst hV
  clear hv
  go_enter Tryd.func44, Tryd.ntmps44
  go_wp2
  go_loopw [3, 4] (fun v i wr => ∃ (k : Nat) (xs : List Int), k ≤ 8 * l.length + 4 ∧ i = .int .i64 k ∧ wr.ownsRow w.heap.size 5 1 v xs.length (bs xs) ∧ Hid (xs ++ (grp l k).map ltr = b32 l) ∧ Below w.heap.size w wr)
    (fun _ i _ => 8 * l.length + 5 - (intOf i).toNat)
  case atStart => exact ⟨0, [], by omega, rfl, World.ownsRow_nil _ _ _ _, hide (List.nil_append _), Below.refl _ _⟩
  case round =>
    obtain ⟨k, xs, hk, rfl, hown, hx, hbel⟩ := hrel
    have hxl : xs.length ≤ 8 * l.length + 5 := by
      have := congrArg List.length hx.out
      rw [List.length_append, b32_len] at this
      omega
    by_cases hlt : k < 8 * l.length
    · have HO := hide hown
      have HB := hide hbel
      clear hown hbel
      go_wp2
      go_loopw [5, 6] (fun n q ws => ∃ t : Nat, t ≤ 5 ∧ q = .int .i64 (k + t) ∧ n = .int .i64 (part l k t) ∧ ws = wr)
        (fun _ q _ => k + 5 - (intOf q).toNat)
      case atStart => exact ⟨0, by omega, by go_num, rfl, rfl⟩
      case round =>
        obtain ⟨t, ht, rfl, rfl, hws⟩ := hrel
        subst hws
        obtain ⟨p0, p1⟩ := part_range l k t ht
        generalize hp : part l k t = p at *
        have HP := hide hp
        clear hp
        by_cases ht5 : t < 5
        · by_cases hin : k + t < 8 * l.length
          · obtain ⟨b, off, rfl, hblt, hcell⟩ := hrd (by omega)
            have hc := (HB.out.cell (p := ⟨b, off + (k + t) / 8, none⟩) hblt).trans (hcell _ _ (bs_get (by omega)))
            obtain ⟨y0, y1⟩ := hB.at_ ((k + t) / 8)
            have hbit : bitI l (k + t) = l.getD ((k + t) / 8) 0 / 2 ^ (7 - (k + t) % 8) % 2 := rfl
            generalize hy : l.getD ((k + t) / 8) 0 = y at *
            clear hy
            have z0 : 0 ≤ y / 2 ^ (7 - (k + t) % 8) := Int.ediv_nonneg y0 (by exact Int.pow_nonneg (by omega))
            have z1 : y / 2 ^ (7 - (k + t) % 8) ≤ 255 := Int.le_trans (Int.ediv_le_self _ y0) y1
            have hand : bits .and .i64 (y / 2 ^ (7 - (k + t) % 8)) 1 = bitI l (k + t) := by rw [hbit]; exact and_low 1 (by omega) z0 (by omega)
            obtain ⟨i0, i1⟩ := bitI_01 l (k + t)
            have hpart : part l k (t + 1) = 2 * p + bitI l (k + t) := by rw [part, HP.out]
            generalize bitI l (k + t) = bt at *
            have p32 : p < 32 := p_32 ht p1
            have HH := hide hpart
            clear hpart hbit p1 hcell hrd
            go_wp2
            go_roundw
            case rel => exact ⟨t + 1, by omega, by go_num, by rw [HH.out], trivial⟩
            case measure => simp [intOf]; omega
          · have hpart : part l k (t + 1) = 2 * p := by
              rw [part, HP.out]
              have : bitI l (k + t) = 0 := by
                unfold bitI
                rw [List.getD_eq_getElem?_getD, List.getElem?_eq_none (by omega)]
                simp
              omega
            have p32 : p < 32 := p_32 ht p1
            have HH := hide hpart
            clear hpart p1 hrd
            go_wp2
            go_roundw
            case rel => exact ⟨t + 1, by omega, by go_num, by rw [HH.out], trivial⟩
            case measure => simp [intOf]; omega
        · obtain rfl : t = 5 := by omega
          obtain ⟨pn, rfl⟩ := Int.eq_ofNat_of_zero_le p0
          have p32 : pn < 32 := by omega
          have hlt' := ltr_at pn p32
          clear p0 p1 hrd
          go_wp2_with (at_builtin; refine wpList_app _ rfl (.tmp 41) (.tmp 44) _ rfl w.heap.size 5 i0 _ 1 Tryd.underlying28 hi0 hz0 hz1 hz2 rfl _ _ _ rfl (HO.out.alloc _) _ _ rfl (rd_one _ _ _) (bs_one _) (by rw [bs_length]; simp only [maxLen, List.length_singleton]; omega) (by rw [bs_length]; simp only [List.length_singleton]; omega) (by have := HB.out.size; simp; omega) ?_; intro v3 w3 own3 gr3)
          go_roundw
          case rel => exact ⟨k + 5, xs ++ [ltr pn], by omega, by go_num, own_len (own_cells own3 (bs_append _ _).symm) (by simp [bs]), hide (by
              have := hx.out
              rw [grp_more hlt, HP.out] at this
              rw [← this]
              simp), Below.row (HB.out.alloc HB.out.size _) (by have := HB.out.size; simp; omega) (HO.out.alloc _) gr3⟩
          case measure => simp [intOf]; omega
    · have hfin : xs = b32 l := by
        have := hx.out
        rw [grp_end hlt] at this
        simpa using this
      have HF := hide hfin
      have HO := hide hown
      have HB := hide hbel
      clear hfin hown hbel hrd
      go_wp2
      go_ret
      rw [← HF.out]
      exact ⟨_, rfl, Own.of HO.out (by simp [bs]), HB.out⟩
end Go.Proofs.YtnloknhcdlannaaDoor
