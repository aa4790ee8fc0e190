
/-
  NameOk: the program's walk.
-/
import Derived.Test.YtnloknhcdlannaaDoorNameOk
namespace Go.Proofs.YtnloknhcdlannaaDoor
open Go.RowKit

set_option maxRecDepth 20000 in
set_option maxHeartbeats 1600000 in
theorem implNameOk (l : List Int) (hB : Byt l) (v : Value) (w : World) (hv : Rd w v (bs l)) (hl : l.length ≤ 1099511627776) :
    Calls Tryd.prog 57 #[v] w fun e w' => e = .returned (.bool (nameOk l)) ∧ Below w.heap.size w w' := by
  have hcv := conv_rd (P := Tryd.prog) Tryd.underlying28 Tryd.underlying5 Tryd.underlying9 hv
  obtain ⟨A, c, rfl, hc1, hc2, hrd⟩ := hv
  rw [bs_length] at *
  unfold maxLen at hc2
  obtain ⟨R, hR⟩ : ∃ R, nameOk l = R := ⟨_, rfl⟩
  rw [hR]
  clear hrd
  by_cases h16 : l.length = 16
  · have HR : Hid (okFrom l 0 = R) := by
      rw [← hR, nameOk, h16]
      exact hide rfl
    have hne : ((l.length : Int) != 16) = false := by rw [h16]; rfl
    have hsz := strOfNums_size l
    rw [h16] at hsz
    have hget : ∀ k (h : k < (strOfNums l).size), (((strOfNums l)[k]'h).toNat : Int) = l.getD k 0 := fun k h => str_get hB h
    have hhi : l.length ≤ 16 ∧ 16 ≤ l.length := by omega
    obtain ⟨hlo, hhi⟩ := hhi
    clear hR h16
    generalize strOfNums l = s at *
    have HSZ := hide hsz
    have HG := hide hget
    clear hsz hget
    go_enter Tryd.func57, Tryd.ntmps57
    go_wp2
    clear hcv
    go_loopw [] (fun wr => ∃ k : Nat, k ≤ 16 ∧ wr.heap[w.heap.size]? = some (.stringIter s k) ∧ Hid (okFrom l k = R) ∧ Below w.heap.size w wr) (fun wr => 16 - wr.iterPos w.heap.size)
    case atStart => exact ⟨0, by omega, by simpa using World.iter_heap w s 0, HR, (Below.refl _ w).alloc (Nat.le_refl _) _⟩
    case round =>
      obtain ⟨k, hk, hit, hx, hbw⟩ := hrel
      have hwz : w.heap.size < wr.heap.size := (Array.getElem?_eq_some_iff.1 hit).1
      by_cases hp : k < 16
      · have hps : k < s.size := by rw [HSZ.out]; exact hp
        have hgk := HG.out k hps
        have hm := okFrom_more (l := l) (k := k) (by omega)
        obtain ⟨y0, y1⟩ := hB.at_ k
        generalize l.getD k 0 = y at *
        by_cases h128 : y < 128
        · have hnx : ∀ ty, (Instr.next (.pointer (some ⟨w.heap.size, 0, none⟩)) true ty).run Tryd.prog wr = _ := fun ty => Lib.run_next_ascii_at wr w.heap.size s k ty hit hps (by omega)
          rw [hgk] at hnx
          have hit2 := Lib.iterAt_heap wr w.heap.size s k (k + 1) hit
          have hbw2 := Lib.below_iterAt hbw (k := w.heap.size) (by omega) s (k + 1)
          have hwz2 : (wr.iterAt w.heap.size s (k + 1)).heap.size = wr.heap.size := Lib.iterAt_size _ _ _ _
          have hm0 : wr.iterPos w.heap.size = k := iterPos_of hit
          generalize wr.iterAt w.heap.size s (k + 1) = w2 at *
          have hlt2 : w.heap.size < w2.heap.size := by omega
          have HM0 := hide hm0
          have HI := hide hit2
          have HB := hide hbw2
          have HM := hide hm
          clear hm0 hit hit2 hbw hbw2 hgk hm hwz2
          by_cases hz0 : 0 ≤ lidx y
          · have hd : decide (0 ≤ lidx y) = true := by simpa using hz0
            have HD := hide hd
            clear hd hz0
            go_wp2_with fail
            refine (containsLow y y0 h128 w2).mono ?_
            rintro e w3 ⟨rfl, b3⟩
            rw [HD.out]
            have hI3 : w3.heap[w.heap.size]? = some (.stringIter s (k + 1)) := (b3.block _ hlt2).trans HI.out
            have HI3 := hide hI3
            have hm3 : w3.iterPos w.heap.size = k + 1 := iterPos_of hI3
            have HM3 := hide hm3
            clear hI3 hm3
            go_wp2_with fail
            go_roundw
            case rel => exact ⟨k + 1, by omega, HI3.out, hide (by rw [← hx.out, HM.out, HD.out, Bool.true_and]), HB.out.trans (b3.mono (by omega))⟩
            case measure => rw [HM3.out, HM0.out]; omega
          · have hd : decide (0 ≤ lidx y) = false := by simpa using hz0
            have HD := hide hd
            clear hd hz0
            go_wp2_with fail
            refine (containsLow y y0 h128 w2).mono ?_
            rintro e w3 ⟨rfl, b3⟩
            rw [HD.out]
            go_wp2_with fail
            go_ret
            exact ⟨ret_bool (by rw [← hx.out, HM.out, HD.out, Bool.false_and]), HB.out.trans (b3.mono (by omega))⟩
        · have hnx : ∀ ty, (Instr.next (.pointer (some ⟨w.heap.size, 0, none⟩)) true ty).run Tryd.prog wr = _ := fun ty => Lib.run_next_any_at wr w.heap.size s k ty hit hps
          have hd1 := decode_high s k hps (by omega)
          have hd2 := decode_le s k
          have hbw2 := Lib.below_iterAt hbw (k := w.heap.size) (by omega) s (k + (Utf8.decode s k).2)
          have hwz2 : (wr.iterAt w.heap.size s (k + (Utf8.decode s k).2)).heap.size = wr.heap.size := Lib.iterAt_size _ _ _ _
          generalize wr.iterAt w.heap.size s (k + (Utf8.decode s k).2) = w2 at *
          generalize (Utf8.decode s k).1 = q at *
          have hlt2 : w.heap.size < w2.heap.size := by omega
          have hd : decide (0 ≤ lidx y) = false := by
            have := (lidx_facts y0 y1).2.2.1 (by omega)
            rw [this]
            rfl
          have HD := hide hd
          have HB := hide hbw2
          have HM := hide hm
          obtain ⟨hq1, -⟩ := hd1
          clear hd hit hbw hbw2 hgk hm hwz2
          go_wp2_with fail
          refine (containsHigh q (by omega) (by omega) w2).mono ?_
          rintro e w3 ⟨rfl, b3⟩
          go_wp2_with fail
          go_ret
          exact ⟨ret_bool (by rw [← hx.out, HM.out, HD.out, Bool.false_and]), HB.out.trans (b3.mono (by omega))⟩
      · obtain rfl : k = 16 := by omega
        have hnx : ∀ ty, (Instr.next (.pointer (some ⟨w.heap.size, 0, none⟩)) true ty).run Tryd.prog wr = _ := fun ty => Lib.run_next_end_at wr w.heap.size s 16 ty hit (by rw [HSZ.out]; omega)
        have hfin : true = R := by rw [← hx.out, okFrom_end (by omega)]
        have HF := hide hfin
        have HB := hide hbw
        clear hfin hit hbw
        go_wp2
        go_ret
        exact ⟨ret_bool (by rw [← HF.out]), HB.out⟩
  · have HR : Hid (false = R) := by
      rw [← hR, nameOk]
      exact hide (by simp [h16])
    have hne : ((l.length : Int) != 16) = true := by simpa using (by omega : ¬ (l.length : Int) = 16)
    clear hR h16 hcv
    go_enter Tryd.func57, Tryd.ntmps57
    go_wp2
    go_ret
    exact ⟨ret_bool (by rw [← HR.out]), Below.refl _ _⟩

end Go.Proofs.YtnloknhcdlannaaDoor
