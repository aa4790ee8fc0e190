
/-
  Sha256: the model and the program give the same bytes.
-/
import Derived.Test.YtnloknhcdlannaaDoorShaM
import Derived.Test.YtnloknhcdlannaaDoorShaT
namespace Go.Proofs.YtnloknhcdlannaaDoor
open Go.RowKit
set_option linter.unusedVariables false

theorem Rd.far {w w1 w' : World} {v : Value} {xs : List Value} {lo hi : Nat} (h : Rd w v xs) (hb : Below w.heap.size w w1) (ho : Outside lo hi w1 w') (hlo : w.heap.size ≤ lo) : Rd w' v xs :=
  h.below (ho.below hb hlo hb.size)

set_option maxRecDepth 20000 in
set_option maxHeartbeats 1600000 in
theorem mixAll (l : List Int) (hB : Byt l) (n : Nat) (hn : l.length = 64 * n) (hl : n ≤ 100000) (s : S8) (hs : s.Ok) (g : Nat) (v : Value) (w : World)
    (hv : ∀ W, Outside g (g + 1) w W → Rd W v (bs l)) (hg : At w g 88 (wd s.list)) (hT : Tab w) (hne : 1 < g) :
    Calls Tryd.prog 72 #[.pointer (some ⟨g, 0, none⟩), v] w fun e w' => (∃ v, e = .returned v) ∧ At w' g 88 (wd (hashN s l n).list) ∧ Outside g (g + 1) w w' := by
  have h0 : Outside g (g + 1) w w := Outside.of_below (Below.refl _ _) _ _
  obtain ⟨A, c, rfl, hc1, hc2, _⟩ := hv w h0
  rw [bs_length] at *
  unfold maxLen at hc2
  have HG := hide hg
  have HT := hide hT
  have HV := hide hv
  have HN := hide hn
  have hlm : l.length ≤ 6400000 := by omega
  clear hg hT hv hn
  go_enter Tryd.func72, Tryd.ntmps72
  go_wp2
  go_loopw [4] (fun i wr => ∃ k : Nat, k ≤ n ∧ i = .int .i64 (64 * k) ∧ At wr g 88 (wd (hashN s l k).list) ∧ Outside g (g + 1) w wr)
    (fun i _ => l.length - (intOf i).toNat)
  case atStart => exact ⟨0, by omega, by go_num, HG.out, h0⟩
  case round =>
    obtain ⟨k, hk, rfl, hat, hO⟩ := hrel
    have hn := HN.out
    by_cases hlt : k < n
    · obtain ⟨A2, c2, e2, _, _, hrd⟩ := HV.out wr hO
      injection e2 with e3 _ e4
      subst e3 e4
      rw [bs_length] at *
      obtain ⟨b, off, rfl, hblt, hcell⟩ := hrd (by omega)
      have hpart : Rd wr (.slice (some ⟨b, off + 64 * k, none⟩) 64 (c - 64 * k)) (bs (blk64 l k)) := Rd.part hcell hblt (k := 64 * k) (n := 64) (by omega) (by omega) (by unfold maxLen; omega) rfl
      have hmix := mix (hashN s l k) (hashN_ok hs _ _) g (blk64 l k) (blk_byt hB k) (blk_len (by omega)) _ wr hpart hat (HT.out.outside hO hne)
      have HO := hide hO
      clear hcell hrd hpart hat hO
      have q6 : 64 * (k : Int) ≤ 64 * (k : Int) + 64 := by omega
      have q7 : ¬ c = 64 * k := by omega
      have q5 : 64 * (k : Int) + 64 ≤ (c : Int) := by omega
      have q4 : 64 * (k : Int) < (l.length : Int) := by omega
      have hm : l.length - (64 * k + 64) < l.length - 64 * k := by omega
      clear hn
      go_wp2_with (go_at_call 86; (with_reducible refine hmix.mono ?_); rintro e w2 ⟨⟨v2, rfl⟩, at2, o2⟩)
      go_roundw
      case rel => exact ⟨k + 1, by omega, by go_num, at2, HO.out.trans o2⟩
      case measure => have hn := HN.out; simp [intOf]; omega
    · obtain rfl : k = n := by omega
      have HA := hide hat
      have HO := hide hO
      have q4 : ¬ 64 * (k : Int) < (l.length : Int) := by omega
      clear hat hO hn
      go_wp2
      go_end0
      exact ⟨⟨_, rfl⟩, HA.out, HO.out⟩

/-- What Sha256 answers. -/
def sha256 (l : List Int) : List Int := if 100000 < l.length then [] else shaL l
theorem sha256_byt (l : List Int) : Byt (sha256 l) := by
  unfold sha256
  split
  · exact Byt.nil
  · exact shaL_byt _
theorem sha256_room (l : List Int) (_ : l.length ≤ 1048576) : (sha256 l).length ≤ 1099511627776 := by
  unfold sha256
  split
  · simp
  · rw [shaL_len]; omega

end Go.Proofs.YtnloknhcdlannaaDoor
