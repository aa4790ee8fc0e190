/-
  Valid trees in plain numbers.
-/
import Derived.Test.YtindjacbocfniabTree
import Derived.Test.YtindjacbocfniabLess
import Derived.Test.YtindjacbocfniabEntryQ
namespace Go.Proofs.Ytindjacbocfniab
open Go.RowKit
set_option linter.unusedVariables false

/-- The k-th name is an entry, and comes behind the one before it. -/
def nameAt (ns : List (List Int)) (k : Nat) : Bool := entryOk (ns.getD k []) && (decide (k = 0) || lessL (ns.getD (k - 1) []) (ns.getD k []))
def ascFrom (ns : List (List Int)) : Nat → Nat → Bool
  | 0, _ => true
  | f + 1, k => nameAt ns k && ascFrom ns f (k + 1)
def asc (ns : List (List Int)) : Bool := ascFrom ns ns.length 0
theorem ascFrom_more {ns : List (List Int)} {k : Nat} (h : k < ns.length) : ascFrom ns (ns.length - k) k = (nameAt ns k && ascFrom ns (ns.length - (k + 1)) (k + 1)) := by
  have e : ns.length - k = (ns.length - (k + 1)) + 1 := by omega
  rw [e, ascFrom]

def T.nodeOk : T → Bool
  | .node k d ns ks => if k = 2 then decide (d.length = 0 ∧ ks.length ≤ 6 ∧ ns.length = ks.length) && asc ns else decide (0 ≤ k ∧ k ≤ 3 ∧ d.length ≤ 400 ∧ ns.length = 0 ∧ ks.length = 0)

set_option maxRecDepth 20000 in
set_option maxHeartbeats 1600000 in
theorem entriesAscend (ns : List (List Int)) (hB : BytN ns) (v : Value) (w : World) (hv : RdN w v ns) :
    Calls Try.prog 78 #[v] w fun e w' => e = .returned (.bool (asc ns)) ∧ w = w' := by
  obtain ⟨vs, hv, hvl, hvs⟩ := hv
  obtain ⟨A, c, rfl, hc1, hc2, hrd⟩ := hv
  obtain ⟨n, hn⟩ : ∃ n, ns.length = n := ⟨_, rfl⟩
  rw [hn] at hvl
  rw [hvl] at hc1 hrd ⊢
  unfold maxLen at hc2
  obtain ⟨R, hR⟩ : ∃ R, asc ns = R := ⟨_, rfl⟩
  rw [hR]
  have HN := hide hn
  have HVL := hide hvl
  have HRD := hide hrd
  have HVS := hide hvs
  have HR : Hid (ascFrom ns (n - 0) 0 = R) := by rw [← hR, asc, hn]; exact hide rfl
  have HBN := hide hB
  clear hn hvl hrd hvs hR hB
  go_enter Try.func78, Try.ntmps78
  go_wp2
  go_loopw [7] (fun i wr => ∃ k : Nat, k ≤ n ∧ i = .int .i64 k ∧ Hid (ascFrom ns (n - k) k = R) ∧ w = wr) (fun i _ => n - (intOf i).toNat)
  case atStart => exact ⟨0, Nat.zero_le _, rfl, HR, rfl⟩
  case round =>
    obtain ⟨k, hk, rfl, hx, hww⟩ := hrel
    subst hww
    by_cases hlt : k < n
    · have hkl : k < ns.length := by rw [HN.out]; exact hlt
      obtain ⟨b, off, rfl, hblt, hcell⟩ := HRD.out (by omega)
      obtain ⟨x, hxe⟩ : ∃ x, vs[k]? = some x := ⟨_, List.getElem?_eq_getElem (by rw [HVL.out]; exact hlt)⟩
      have q1 := hcell k x hxe
      have r1 := HVS.out k x hxe
      have hmore := ascFrom_more hkl
      rw [HN.out, hx.out] at hmore
      have hBk : Byt (ns.getD k []) := by
        have : ns.getD k [] ∈ ns := by simp [List.getD, List.getElem?_eq_getElem hkl]
        exact HBN.out _ this
      have e1 := fun W (hb : Rd W x (bs (ns.getD k []))) => implEntryQ (ns.getD k []) hBk x W hb
      have k1 : (k : Int) < (n : Int) := by omega
      have hnm : nameAt ns k = (entryOk (ns.getD k []) && (decide (k = 0) || lessL (ns.getD (k - 1) []) (ns.getD k []))) := rfl
      rw [hnm] at hmore
      cases he : entryOk (ns.getD k []) with
      | false =>
        have a1 := e1 w r1
        rw [he] at a1 hmore
        rw [Bool.false_and, Bool.false_and] at hmore
        have HM := hide hmore
        clear hmore hnm he e1 r1 hcell hxe
        go_wp2_with fail
        refine a1.mono ?_
        rintro e w' ⟨rfl, rfl⟩
        go_wp2_with fail
        go_ret
        exact ⟨ret_bool HM.out.symm, rfl⟩
      | true =>
        have a1 := e1 w r1
        rw [he] at a1 hmore
        rw [Bool.true_and] at hmore
        by_cases hk0 : k = 0
        · subst hk0
          have q1' : w.cell? ⟨b, off, none⟩ = some x := by simpa using q1
          have hm2 : ascFrom ns (n - (0 + 1)) (0 + 1) = R := by simpa using hmore.symm
          have HM := hide hm2
          clear hmore hm2 hnm he e1 r1 hcell hxe
          go_wp2_with fail
          refine a1.mono ?_
          rintro e w' ⟨rfl, rfl⟩
          go_wp2_with fail
          go_roundw
          case rel => exact ⟨0 + 1, by omega, by go_num, HM, trivial⟩
          case measure => simp [intOf]; omega
        · rw [decide_eq_false hk0, Bool.false_or] at hmore
          obtain ⟨y, hye⟩ : ∃ y, vs[k - 1]? = some y := ⟨_, List.getElem?_eq_getElem (by rw [HVL.out]; omega)⟩
          have q2 := hcell (k - 1) y hye
          have r2 := HVS.out (k - 1) y hye
          have hBj : Byt (ns.getD (k - 1) []) := by
            have : ns.getD (k - 1) [] ∈ ns := by simp [List.getD, List.getElem?_eq_getElem (show k - 1 < ns.length by omega)]
            exact HBN.out _ this
          have a2 := compare (ns.getD (k - 1) []) (ns.getD k []) y x w r2 r1
          have hcmp := cmpI_less hBj hBk
          obtain ⟨z, hz⟩ : ∃ z, cmpI (ns.getD (k - 1) []) (ns.getD k []) = z := ⟨_, rfl⟩
          rw [hz] at a2 hcmp
          have k2 : ((k : Int) - 1) < (n : Int) := by omega
          have k3 : (1 : Int) ≤ (k : Int) := by omega
          have k4 : ((k : Int) - 1).toNat = k - 1 := by omega
          have k5 : 0 < k := by omega
          cases hls : lessL (ns.getD (k - 1) []) (ns.getD k []) with
          | true =>
            rw [hls] at hmore hcmp
            have hz0 : z < 0 := by simpa using hcmp
            have hm2 : ascFrom ns (n - (k + 1)) (k + 1) = R := by simpa using hmore.symm
            have HM := hide hm2
            clear hmore hm2 hnm he e1 r1 r2 hcell hxe hye hz hcmp hls hBj hBk
            go_wp2_with fail
            refine a1.mono ?_
            rintro e w' ⟨rfl, rfl⟩
            go_wp2_with fail
            refine a2.mono ?_
            rintro e w' ⟨rfl, rfl⟩
            go_wp2_with fail
            go_roundw
            case rel => exact ⟨k + 1, by omega, by go_num, HM, trivial⟩
            case measure => simp [intOf]; omega
          | false =>
            rw [hls] at hmore hcmp
            have hz0 : ¬ z < 0 := by simpa using hcmp
            rw [Bool.false_and] at hmore
            have HM := hide hmore
            clear hmore hnm he e1 r1 r2 hcell hxe hye hz hcmp hls hBj hBk
            go_wp2_with fail
            refine a1.mono ?_
            rintro e w' ⟨rfl, rfl⟩
            go_wp2_with fail
            refine a2.mono ?_
            rintro e w' ⟨rfl, rfl⟩
            go_wp2_with fail
            go_ret
            exact ⟨ret_bool HM.out.symm, rfl⟩
    · obtain rfl : k = n := by omega
      have hfin : true = R := by rw [← hx.out, Nat.sub_self, ascFrom]
      have HF := hide hfin
      clear hfin
      go_wp2
      go_ret
      exact ⟨ret_bool HF.out, rfl⟩

end Go.Proofs.Ytindjacbocfniab
