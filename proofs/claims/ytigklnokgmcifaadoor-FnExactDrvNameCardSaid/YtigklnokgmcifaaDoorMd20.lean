/-
  Parts of the proof: App8, Door, InCmp, ShaN.
-/
import Derived.Test.YtigklnokgmcifaaDoorMd19
import Derived.Test.YtigklnokgmcifaaDoorMd6
import Derived.Test.YtigklnokgmcifaaDoorMd14
import Derived.Test.YtigklnokgmcifaaDoorMd1
import Derived.Test.YtigklnokgmcifaaDoorCards
import Derived.Test.YtigklnokgmcifaaDoorTie
import Derived.Deep.DeepHandedRow
import Derived.Lib.LaidTab
import Derived.OpenVars
import Derived.Test.YtigklnokgmcifaaDoorMd10
import Derived.Test.YtigklnokgmcifaaDoorMd12

/-
  appendNum and appendText turn nothing but rows of bytes; rows of bytes that a call collects, beside boxes of structs.
-/
namespace Go.Proofs.YtigklnokgmcifaaDoor
open Go.RowKit
set_option linter.unusedVariables false

/-- Nothing below lo turns, and no row of another type than bytes. -/
structure Grow8 (lo : Nat) (w w' : World) : Prop where
  below : Below lo w w'
  rows : ∀ (k : Nat) (cs : Array Value) (t : TypeId) (r : Nat × Nat), w.heap[k]? = some (Obj.cells cs t r) → t ≠ 5 → w'.heap[k]? = some (Obj.cells cs t r)
theorem Grow8.refl (lo : Nat) (w : World) : Grow8 lo w w := ⟨Below.refl _ _, fun _ _ _ _ h _ => h⟩
theorem Grow8.trans {lo : Nat} {a b c : World} (h : Grow8 lo a b) (k : Grow8 lo b c) : Grow8 lo a c :=
  ⟨h.below.trans k.below, fun i cs t r hi ht => k.rows i cs t r (h.rows i cs t r hi ht) ht⟩
theorem Grow8.of_below {lo : Nat} {w w' : World} (h : Below w.heap.size w w') (hl : lo ≤ w.heap.size) : Grow8 lo w w' :=
  ⟨h.mono hl, fun k cs t r hk _ => (h.block k (Array.getElem?_eq_some_iff.1 hk).1).trans hk⟩
theorem Grow8.alloc {lo : Nat} {a w : World} (h : Grow8 lo a w) (hl : lo ≤ w.heap.size) (o : Obj) : Grow8 lo a (w.alloc o) := h.trans (Grow8.of_below ((Below.refl _ _).alloc (Nat.le_refl _) o) hl)
theorem Grow8.row {lo n : Nat} {a w w' : World} {v : Value} {xs : List Value} (h : Grow8 lo a w) (hl : lo ≤ w.heap.size) (hr : w.ownsRow lo 5 1 v n xs) (hg : w.grownBy w' v.ownBlock) : Grow8 lo a w' := by
  refine h.trans ⟨(Below.refl lo w).grown hg hl fun g hgk => (hr.lt g hgk).1, fun k cs t r hk ht => ?_⟩
  refine (hg.block k (Array.getElem?_eq_some_iff.1 hk).1 (fun e => ?_)).trans hk
  rcases hr.2 with ⟨rfl, _⟩ | ⟨g, cap, cur, rfl, _, hgb, _⟩
  · simp [Value.ownBlock] at e
  · obtain rfl : k = g := by simpa [Value.ownBlock] using e
    rw [hgb] at hk
    injection hk with hk
    injection hk with _ hk _
    exact ht hk.symm
theorem Grow8.box {lo : Nat} {w w' : World} (h : Grow8 lo w w') {g : Nat} {t : TypeId} {us : List Value} (hb : Box w g t us) (ht : t ≠ 5) : Box w' g t us := h.rows _ _ _ _ hb ht

set_option maxHeartbeats 400000 in
theorem appendNumOut8 (l : List Int) (v : Value) (n : Int) (lo : Nat) (w : World) (hv : w.ownsRow lo 5 1 v l.length (bs l)) (hn : n < 0 ∨ 2147483647 < n) :
    Calls Tryd.prog 116 #[v, .int .i64 n] w fun e w' => ∃ v', e = .returned v' ∧ w'.ownsRow lo 5 1 v' l.length (bs l) ∧ Grow8 lo w w' := by
  have HV := hide hv
  clear hv
  by_cases h0 : n < 0
  all_goals
    go_enter Tryd.func116, Tryd.ntmps116
    go_wp2
    go_ret
    exact ⟨_, rfl, HV.out, Grow8.refl _ _⟩

set_option maxRecDepth 20000 in
set_option maxHeartbeats 800000 in
theorem appendNumIn8 (l : List Int) (v : Value) (n : Nat) (lo : Nat) (w : World) (hv : w.ownsRow lo 5 1 v l.length (bs l)) (hlo : lo ≤ w.heap.size) (hl : l.length ≤ 1099511627776) (hn : n ≤ 2147483647) :
    Calls Tryd.prog 116 #[v, .int .i64 n] w fun e w' => ∃ v', e = .returned v' ∧ w'.ownsRow lo 5 1 v' (l ++ vint n).length (bs (l ++ vint n)) ∧ Grow8 lo w w' := by
  obtain ⟨i0, hi0, hz0, hz1, hz2⟩ := info_parts u8info
  have HV := hide hv
  clear hv
  go_enter Tryd.func116, Tryd.ntmps116
  go_wp2
  go_loopw [0, 1] (fun v t wr => ∃ (m : Nat) (xs : List Int), m ≤ 2147483647 ∧ t = .int .i64 m ∧ wr.ownsRow lo 5 1 v xs.length (bs xs) ∧ Hid (xs ++ vint m = l ++ vint n) ∧ Grow8 lo w wr)
    (fun _ t _ => (intOf t).toNat)
  case atStart => exact ⟨n, l, hn, rfl, HV.out, hide rfl, Grow8.refl _ _⟩
  case round =>
    obtain ⟨m, xs, hm, rfl, hown, hx, hbel⟩ := hrel
    have hroom := vint_room hn hx.out
    have hlo2 : lo ≤ wr.heap.size := Nat.le_trans hlo hbel.below.size
    have hor : bits .or .u8 ((m : Int) % 256) 128 = (m : Int) % 128 + 128 := by rw [or128 (by omega) (by omega)]; omega
    have HO := hide hor
    clear hor

    by_cases h128 : m < 128
    · go_wp2_with (at_builtin; refine wpList_app _ rfl (.tmp 22) (.tmp 25) _ rfl lo 5 i0 _ 1 Tryd.underlying22 hi0 hz0 hz1 hz2 rfl _ _ _ rfl (hown.alloc _) _ _ rfl (rd_one _ _ _) (bs_one _) (by rw [bs_length]; simp only [maxLen, List.length_singleton]; omega) (by rw [bs_length]; simp only [List.length_singleton]; omega) (by simp; omega) ?_; intro v3 w3 own3 gr3)
      go_ret
      refine ⟨_, rfl, own_len (own_cells own3 ?_) (by rw [bs_length, ← hx.out, vint_last h128]; simp), ?_⟩
      · rw [← bs_append, ← hx.out, vint_last h128]
      · exact Grow8.row (hbel.alloc hlo2 _) (by simp; omega) (hown.alloc _) gr3
    · go_wp2_with (at_builtin; refine wpList_app _ rfl (.tmp 16) (.tmp 20) _ rfl lo 5 i0 _ 1 Tryd.underlying22 hi0 hz0 hz1 hz2 rfl _ _ _ rfl (hown.alloc _) _ _ rfl (rd_one _ _ _) (bs_one _) (by rw [bs_length]; simp only [maxLen, List.length_singleton]; omega) (by rw [bs_length]; simp only [List.length_singleton]; omega) (by simp; omega) ?_; intro v3 w3 own3 gr3)
      go_roundw
      case rel => exact ⟨m / 128, xs ++ [(m : Int) % 128 + 128], by omega, by go_num, own_len (own_cells own3 (by rw [HO.out, bs_append])) (by simp [bs]), hide (vint_step h128 hx.out), Grow8.row (hbel.alloc hlo2 _) (by simp; omega) (hown.alloc _) gr3⟩
      case measure => simp [intOf]; omega

theorem appendNum8 (l : List Int) (v : Value) (n : Int) (lo : Nat) (w : World) (hv : w.ownsRow lo 5 1 v l.length (bs l)) (hlo : lo ≤ w.heap.size) (hl : l.length ≤ 1099511627776) :
    Calls Tryd.prog 116 #[v, .int .i64 n] w fun e w' => ∃ v', e = .returned v' ∧ w'.ownsRow lo 5 1 v' (putNum l n).length (bs (putNum l n)) ∧ Grow8 lo w w' := by
  by_cases h : n < 0 ∨ 2147483647 < n
  · rw [putNum, if_pos h]
    exact appendNumOut8 l v n lo w hv h
  · rw [putNum, if_neg h]
    obtain ⟨k, rfl⟩ := Int.eq_ofNat_of_zero_le (by omega : 0 ≤ n)
    exact appendNumIn8 l v k lo w hv hlo hl (by omega)

set_option maxRecDepth 20000 in
set_option maxHeartbeats 800000 in
theorem appendText8 (l : List Int) (v : Value) (t : List Int) (u : Value) (lo : Nat) (w w0 : World) (hv : w.ownsRow lo 5 1 v l.length (bs l)) (hu : Rd w0 u (bs t)) (h0 : w0.heap.size = lo) (hb : Below lo w0 w) (hl : l.length ≤ 1099511627776) :
    Calls Tryd.prog 105 #[v, u] w fun e w' => ∃ v', e = .returned v' ∧ w'.ownsRow lo 5 1 v' (putText l t).length (bs (putText l t)) ∧ Grow8 lo w w' := by
  obtain ⟨i0, hi0, hz0, hz1, hz2⟩ := info_parts u8info
  obtain ⟨A', c', hU, hc1', hc2', _⟩ := id hu
  rw [bs_length] at *
  unfold maxLen at hc2'
  subst hU
  have HV := hide hv
  have HU := hide hu
  clear hv hu
  have hlo : lo ≤ w.heap.size := by rw [← h0]; exact hb.size
  have HB := hide hb
  have H0 := hide h0
  clear hb h0
  by_cases h4 : 400 < t.length
  · rw [putText, if_pos h4]
    go_enter Tryd.func105, Tryd.ntmps105
    go_wp2
    go_ret
    exact ⟨_, rfl, HV.out, Grow8.refl _ _⟩
  · rw [putText, if_neg h4]
    obtain ⟨P, hP⟩ : ∃ P, putNum l t.length = P := ⟨_, rfl⟩
    have hroom : P.length ≤ l.length + 5 := by rw [← hP]; exact putNum_len l t.length
    rw [hP]
    have HP := hide hP
    clear hP
    go_enter Tryd.func105, Tryd.ntmps105
    go_wp2_with fail
    refine (appendNum8 l _ t.length lo w HV.out hlo (by omega)).mono ?_
    rintro e w1 ⟨v1, rfl, o1, b1⟩
    rw [HP.out] at o1
    have hu1 : Rd w1 (.slice A' t.length c') (bs t) := HU.out.below (by rw [H0.out]; exact HB.out.trans b1.below)
    have hlo1 : lo ≤ w1.heap.size := Nat.le_trans hlo b1.below.size
    go_wp2_with (at_builtin; refine wpList_app _ rfl (.tmp 12) (.tmp 13) _ rfl lo 5 i0 _ 1 Tryd.underlying22 hi0 hz0 hz1 hz2 rfl _ _ _ rfl o1 _ (bs t) rfl hu1 (bs_one t) (by rw [bs_length]; simp only [maxLen]; omega) (by rw [bs_length]; omega) hlo1 ?_; intro v2 w2 own2 gr2)
    go_ret
    exact ⟨_, rfl, own_len (own_cells own2 (bs_append _ _).symm) (by simp [bs]), Grow8.row b1 hlo1 o1 gr2⟩



theorem Acc.text8 {w0 W : World} {L t : List Int} {v u : Value} (h : Acc w0 L v W) (hu : Rd w0 u (bs t)) (hl : L.length ≤ 1099511627776) :
    Calls Tryd.prog 105 #[v, u] W fun e w' => ∃ v', e = .returned v' ∧ Acc w0 (L ++ etx t) v' w' ∧ Grow8 w0.heap.size W w' := by
  refine (appendText8 L v t u w0.heap.size W w0 h.row hu rfl h.below hl).mono ?_
  rintro e w' ⟨v', rfl, h1, h2⟩
  rw [putText_etx] at h1
  exact ⟨v', rfl, Acc.of h1 (h.below.trans h2.below), h2⟩
/-- Behind an append to the row. -/
theorem Acc.app8 {w0 W W2 : World} {L S : List Int} {A : Option Addr} {n c : Nat} {v2 : Value} (hn : n = L.length) (ho : W.ownsRow w0.heap.size 5 1 (.slice A n c) n (bs L)) (hb : Below w0.heap.size w0 W)
    (o2 : W2.ownsRow w0.heap.size 5 1 v2 (n + (bs S).length) (bs L ++ bs S)) (g2 : W.grownBy W2 (Value.slice A n c).ownBlock) : Acc w0 (L ++ S) v2 W2 ∧ Grow8 w0.heap.size W W2 :=
  ⟨Acc.app hn ho hb o2 g2, (Grow8.refl _ _).row hb.size ho g2⟩

end Go.Proofs.YtigklnokgmcifaaDoor


/-
  The table of the program, as a row lists it.
-/
namespace Go.Proofs.YtigklnokgmcifaaDoor
open Go.ChangeShapes Go.WideShapes Go.ChangeAt Go.RowKit

theorem gKeys : Tryd.prog.globalNamed "loop.example/g00538/impl.roundKeys" = some 1 := by kernel_rfl
theorem gKeysType : (Tryd.prog.globals[1]?).map (·.type) = some 143 := by kernel_rfl
theorem cellsKeys : Tryd.prog.cellsOf 143 = 64 := by kernel_rfl
theorem cellsU32 : Tryd.prog.cellsOf 128 = 1 := by kernel_rfl
theorem tab_of_laid {W : World} (h : laidMet Tryd.prog [("loop.example/g00538/impl.roundKeys", Rows.laid_loop_example_g00538_impl_roundKeys)] W) : Tab W := by
  have h1 : Lib.TabIs Tryd.prog W "loop.example/g00538/impl.roundKeys" .u32 KL :=
    Lib.tabIs_of_head (rest := []) gKeys gKeysType Tryd.underlying143 Tryd.underlying128 cellsU32 cellsKeys h
  unfold Lib.TabIs World.var? at h1
  rw [gKeys] at h1
  simp only [Option.bind_some] at h1
  split at h1
  · rename_i cs t fr hb
    have e : cs = wd KL := Option.some.inj h1
    subst e
    exact ⟨t, fr, hb⟩
  · cases h1

/-- A world in which the table holds what its declaration says. -/
noncomputable def laidWorld (os : Os) : World :=
  { World.holding Tryd.prog os ⟨#[], #[], []⟩ with heap := (World.holding Tryd.prog os ⟨#[], #[], []⟩).heap.modify 1 fun
      | .cells _ t frozen => .cells (wd KL) t frozen
      | o => o }
theorem laid_met (os : Os) (args : Array Value) : laidMet Tryd.prog [("loop.example/g00538/impl.roundKeys", Rows.laid_loop_example_g00538_impl_roundKeys)] ((laidWorld os).forCall (fun _ _ => 0) ⟨#[], args, []⟩).memory :=
  laidMet_of_run' 8 (by kernel_rfl) (by kernel_rfl)

end Go.Proofs.YtigklnokgmcifaaDoor


/-
  The model's l5inCmp.
-/
namespace Go.Proofs.YtigklnokgmcifaaDoor
open Go.RowKit
set_option linter.unusedVariables false

theorem in1_nil (w : World) : In1 w (raw []) (.slice none 0 0) := (show Rd w (.slice none 0 0) (bs []) from ⟨none, 0, rfl, Nat.le_refl _, Nat.zero_le _, fun h => by simp [bs] at h⟩).in1
set_option maxRecDepth 20000 in
set_option maxHeartbeats 1600000 in
theorem specInCmp (a b : DIn) (ha : oks a.cells) (hb : oks b.cells) (ua ub : List Value) (w : World) (hsa : Ins w a.cells ua) (hsb : Ins w b.cells ub) :
    Calls Tryd.prog 76 #[.agg ua.toArray, .agg ub.toArray] w fun e w' => e = .returned (.int .i64 (realCmp (asReal a) (asReal b))) ∧ Below w.heap.size w w' := by
  obtain ⟨Aa0, ca0, Aa1, ca1, rfl, ha0, ha1⟩ := DIn.view hsa
  obtain ⟨Ab0, cb0, Ab1, cb1, rfl, hb0, hb1⟩ := DIn.view hsb
  obtain ⟨oa0, oa1⟩ := (DIn.oks_iff a).1 ha
  obtain ⟨ob0, ob1⟩ := (DIn.oks_iff b).1 hb
  have ra : oks (asReal a).cells := (DReal.oks_iff _).2 ⟨oa0, oa1, Byt.nil⟩
  have rb : oks (asReal b).cells := (DReal.oks_iff _).2 ⟨ob0, ob1, Byt.nil⟩
  have hc := fun W (hW : Below w.heap.size w W) => specRealCmp (asReal a) (asReal b) ra rb [.slice Aa0 a.drv.length ca0, .slice Aa1 a.out.length ca1, .slice none 0 0] [.slice Ab0 b.drv.length cb0, .slice Ab1 b.out.length cb1, .slice none 0 0] W
    (DReal.lay (x := asReal a) (ha0.step hW) (ha1.step hW) (in1_nil W)) (DReal.lay (x := asReal b) (hb0.step hW) (hb1.step hW) (in1_nil W))
  have HC := hide hc
  have HBS : Hid (∀ o o', Below w.heap.size w ((w.alloc o).alloc o')) := hide (fun o o' => ((Below.refl _ _).alloc (Nat.le_refl _) o).alloc (by simp) _)
  generalize realCmp (asReal a) (asReal b) = Z at *
  clear hc ha0 ha1 hb0 hb1 ra rb oa0 oa1 ob0 ob1 hsa hsb
  go_enter Tryd.func76, Tryd.ntmps76
  go_wp2_with fail
  refine (HC.out _ (HBS.out _ _)).mono ?_
  rintro e w1 ⟨rfl, b1⟩
  have HB1 := hide ((HBS.out _ _).trans (b1.mono (HBS.out _ _).size))
  clear b1
  go_wp2_with fail
  go_ret
  exact ⟨rfl, HB1.out⟩

end Go.Proofs.YtigklnokgmcifaaDoor


/-
  Sha256: the model and the program give the same bytes.
-/
namespace Go.Proofs.YtigklnokgmcifaaDoor
open Go.RowKit
set_option linter.unusedVariables false

theorem Rd.far {w w1 w' : World} {v : Value} {xs : List Value} {lo hi : Nat} (h : Rd w v xs) (hb : Below w.heap.size w w1) (ho : Outside lo hi w1 w') (hlo : w.heap.size ≤ lo) : Rd w' v xs :=
  h.below (ho.below hb hlo hb.size)

set_option maxRecDepth 20000 in
set_option maxHeartbeats 1600000 in
theorem mixAll (l : List Int) (hB : Byt l) (n : Nat) (hn : l.length = 64 * n) (hl : n ≤ 100000) (s : S8) (hs : s.Ok) (g : Nat) (v : Value) (w : World)
    (hv : ∀ W, Outside g (g + 1) w W → Rd W v (bs l)) (hg : At w g 135 (wd s.list)) (hT : Tab w) (hne : 1 < g) :
    Calls Tryd.prog 113 #[.pointer (some ⟨g, 0, none⟩), v] w fun e w' => (∃ v, e = .returned v) ∧ At w' g 135 (wd (hashN s l n).list) ∧ Outside g (g + 1) w w' := by
  have h0 : Outside g (g + 1) w w := Outside.of_below (Below.refl _ _) _ _
  obtain ⟨A, c, rfl, hc1, hc2, _⟩ := hv w h0
  rw [bs_length] at *
  unfold maxLen at hc2
  have HG := hide hg
  have HT := hide hT
  have HV := hide hv
  have HN := hide hn
  have hlm : l.length ≤ 6400000 := by omega
  clear hg hT hv hn
  go_enter Tryd.func113, Tryd.ntmps113
  go_wp2
  go_loopw [4] (fun i wr => ∃ k : Nat, k ≤ n ∧ i = .int .i64 (64 * k) ∧ At wr g 135 (wd (hashN s l k).list) ∧ Outside g (g + 1) w wr)
    (fun i _ => l.length - (intOf i).toNat)
  case atStart => exact ⟨0, by omega, by go_num, HG.out, h0⟩
  case round =>
    obtain ⟨k, hk, rfl, hat, hO⟩ := hrel
    have hn := HN.out
    by_cases hlt : k < n
    · obtain ⟨A2, c2, e2, _, _, hrd⟩ := HV.out wr hO
      injection e2 with e3 _ e4
      subst e3 e4
      rw [bs_length] at *
      obtain ⟨b, off, rfl, hblt, hcell⟩ := hrd (by omega)
      have hpart : Rd wr (.slice (some ⟨b, off + 64 * k, none⟩) 64 (c - 64 * k)) (bs (blk64 l k)) := Rd.part hcell hblt (k := 64 * k) (n := 64) (by omega) (by omega) (by unfold maxLen; omega) rfl
      have hmix := mix (hashN s l k) (hashN_ok hs _ _) g (blk64 l k) (blk_byt hB k) (blk_len (by omega)) _ wr hpart hat (HT.out.outside hO hne)
      have HO := hide hO
      clear hcell hrd hpart hat hO
      have q6 : 64 * (k : Int) ≤ 64 * (k : Int) + 64 := by omega
      have q7 : ¬ c = 64 * k := by omega
      have q5 : 64 * (k : Int) + 64 ≤ (c : Int) := by omega
      have q4 : 64 * (k : Int) < (l.length : Int) := by omega
      have hm : l.length - (64 * k + 64) < l.length - 64 * k := by omega
      clear hn
      go_wp2_with (go_at_call 130; (with_reducible refine hmix.mono ?_); rintro e w2 ⟨⟨v2, rfl⟩, at2, o2⟩)
      go_roundw
      case rel => exact ⟨k + 1, by omega, by go_num, at2, HO.out.trans o2⟩
      case measure => have hn := HN.out; simp [intOf]; omega
    · obtain rfl : k = n := by omega
      have HA := hide hat
      have HO := hide hO
      have q4 : ¬ 64 * (k : Int) < (l.length : Int) := by omega
      clear hat hO hn
      go_wp2
      go_end0
      exact ⟨⟨_, rfl⟩, HA.out, HO.out⟩

/-- What Sha256 answers. -/
def sha256 (l : List Int) : List Int := if 100000 < l.length then [] else shaL l
theorem sha256_byt (l : List Int) : Byt (sha256 l) := by
  unfold sha256
  split
  · exact Byt.nil
  · exact shaL_byt _
theorem sha256_room (l : List Int) (_ : l.length ≤ 1048576) : (sha256 l).length ≤ 1099511627776 := by
  unfold sha256
  split
  · simp
  · rw [shaL_len]; omega

end Go.Proofs.YtigklnokgmcifaaDoor
