/-
  Parts of the proof: Op5J.
-/
import Derived.Test.YtigklnokgmcifaaDoorMd33
import Derived.Deep.RegionWith

/-
  The program's OpOk, whole.
-/
namespace Go.Proofs.YtigklnokgmcifaaDoor
open Go.RowKit
set_option linter.unusedVariables false
set_option linter.unusedSimpArgs false

theorem ok0 (out : Int) (name text : List Int) (arg n : Int) : ((decide (0 ≤ out ∧ out < n) && (entryOk name && decide (text.length ≤ 100))) && (((0 : Int) == 0) && ((out == out) && (decide (name = name) && (decide (text = text) && (arg == 0)))))) = opOk ⟨0, out, name, text, arg⟩ n := by
  rw [Bool.eq_iff_iff]; simp [opOk]; grind
theorem ok1 (out : Int) (name text : List Int) (arg n : Int) : ((decide (0 ≤ out ∧ out < n) && (entryOk name && decide (0 ≤ arg ∧ arg < 10))) && (((1 : Int) == 1) && ((out == out) && (decide (name = name) && (decide (text = []) && (arg == arg)))))) = opOk ⟨1, out, name, text, arg⟩ n := by
  rw [Bool.eq_iff_iff]; simp [opOk]; grind
theorem ok2 (out : Int) (name text : List Int) (arg n : Int) : ((decide (text.length ≤ 100)) && (((2 : Int) == 2) && ((out == 0) && (decide (name = []) && (decide (text = text) && (arg == 0)))))) = opOk ⟨2, out, name, text, arg⟩ n := by
  rw [Bool.eq_iff_iff]; simp [opOk]
theorem ok3 (out : Int) (name text : List Int) (arg n : Int) : ((entryOk name && decide (0 ≤ arg ∧ arg < 10)) && (((3 : Int) == 3) && ((out == 0) && (decide (name = name) && (decide (text = []) && (arg == arg)))))) = opOk ⟨3, out, name, text, arg⟩ n := by
  rw [Bool.eq_iff_iff]; simp [opOk]; grind
theorem ok4 (out : Int) (name text : List Int) (arg n : Int) : ((true) && (((4 : Int) == 4) && ((out == 0) && (decide (name = []) && (decide (text = []) && (arg == 0)))))) = opOk ⟨4, out, name, text, arg⟩ n := by
  rw [Bool.eq_iff_iff]; simp [opOk]

set_option maxRecDepth 20000 in
set_option maxHeartbeats 1600000 in
theorem implOpOk0 (out : Int) (name text : List Int) (arg n : Int) (hbn : Byt name) (hbt : Byt text) (hl2 : name.length ≤ 1048576) (hl3 : text.length ≤ 1048576) (A2 : Option Addr) (c2 : Nat) (A3 : Option Addr) (c3 : Nat) (w : World) (h2 : Rd w (.slice A2 name.length c2) (bs name)) (h3 : Rd w (.slice A3 text.length c3) (bs text)) :
    Calls Tryd.prog 112 #[.agg #[.int .i64 0, .int .i64 out, .slice A2 name.length c2, .slice A3 text.length c3, .int .i64 arg], .int .i64 n] w fun e w' => e = .returned (.bool (opOk ⟨0, out, name, text, arg⟩ n)) ∧ Below w.heap.size w w' := by
  have hna : ∀ W, (nilAhead 281 154 (.agg #[.int .i64 out, .slice A2 name.length c2, .slice A3 text.length c3]) "loop.example/g00538/impl.op").run Tryd.prog W = .ok (some false) W := fun W => by kernel_rfl
  have hme : ∀ W, (method 281 154 (.agg #[.int .i64 out, .slice A2 name.length c2, .slice A3 text.length c3]) "loop.example/g00538/impl.op").run Tryd.prog W = .ok (151, .agg #[.int .i64 out, .slice A2 name.length c2, .slice A3 text.length c3]) W := fun W => by kernel_rfl
  obtain ⟨B, hB⟩ : ∃ B, (decide (0 ≤ out ∧ out < n) && (entryOk name && decide (text.length ≤ 100))) = B := ⟨_, rfl⟩
  obtain ⟨R, hR⟩ : ∃ R, opOk ⟨0, out, name, text, arg⟩ n = R := ⟨_, rfl⟩
  rw [hR]
  have hRB : (B && ((((0 : Int) == 0) && ((out == out) && (decide (name = name) && (decide (text = text) && (arg == 0))))))) = R := by
    rw [← hR, ← hB]
    exact ok0 out name text arg n
  obtain ⟨wa, hwa⟩ : ∃ W, w.alloc (.cells #[.int .i64 0, .int .i64 out, .slice A2 name.length c2, .slice A3 text.length c3, .int .i64 arg] 106) = W := ⟨_, rfl⟩
  have hba : Below w.heap.size w wa := by rw [← hwa]; exact (Below.refl _ _).alloc (Nat.le_refl _) _
  have hv2 := h2.below hba
  have hv3 := h3.below hba
  have bx : Box wa w.heap.size 106 [.int .i64 0, .int .i64 out, .slice A2 name.length c2, .slice A3 text.length c3, .int .i64 arg] := by rw [← hwa]; exact Box.new w _ _
  have x0 := bx.cell (j := 0) rfl
  have x1 := bx.cell (j := 1) rfl
  have x2 := bx.cell (j := 2) rfl
  have x3 := bx.cell (j := 3) rfl
  have x4 := bx.cell (j := 4) rfl
  have HR := hide hRB
  have HA := hide hba
  have HX := hide (fun W (hb : Below wa.heap.size wa W) => bx.step hb)
  have H2 := hide hv2
  have H3 := hide hv3
  have HE := hide (fun W (hb : Below w.heap.size w W) => implEntryQ name hbn (.slice A2 name.length c2) W (h2.below hb))
  have HST := hide (fun W => stated0 out arg A2 name.length c2 A3 text.length c3 W)
  have HOP := hide (fun W => op0 out arg A2 name.length c2 A3 text.length c3 W)
  have HOK := hide (fun W hE => opnOk0 out arg n (entryOk name) A2 name.length c2 A3 text.length c3 W hl3 hE)
  have HSO := hide (fun W h1 h2 h3 h4 => sameOpC 0 out arg 0 out 0 name text name text hbn hbt hbn hbt A2 name.length c2 A3 text.length c3 A2 name.length c2 A3 text.length c3 W h1 h2 h3 h4)
  generalize ((((0 : Int) == 0) && ((out == out) && (decide (name = name) && (decide (text = text) && (arg == 0)))))) = D at *
  rw [hB] at HOK
  clear hRB hba hv2 hv3 h2 h3 hR bx hB
  go_enter Tryd.func112, Tryd.ntmps112
  go_wp2_with fail
  refine (HST.out _).mono ?_
  rintro e w1 ⟨rfl, b1⟩
  have HB1 := hide b1
  have y0 := (HX.out w1 b1).cell (j := 0) rfl
  have y1 := (HX.out w1 b1).cell (j := 1) rfl
  have y2 := (HX.out w1 b1).cell (j := 2) rfl
  have y3 := (HX.out w1 b1).cell (j := 3) rfl
  have y4 := (HX.out w1 b1).cell (j := 4) rfl
  clear b1 x0 x1 x2 x3 x4
  have HD := hide (show Below wa.heap.size wa w1.drew from HB1.out.drew)
  have HK := hide (HA.out.trans (HD.out.mono HA.out.size))
  cases B with
  | false =>
    have HF := hide (show false = R by rw [← HR.out]; rfl)
    go_wp2_with fail
    first
      | go_region_with (go_at_call 128; refine (HOK.out w1.drew (fun W hb => HE.out W (HK.out.trans (hb.mono HK.out.size)))).mono ?_; rintro e w2 ⟨rfl, b2⟩)
      | fail "region"
    all_goals
      have HKK := hide (HK.out.trans (b2.mono HK.out.size))
      clear b2
      go_wp2
      go_ret
      exact ⟨ret_bool HF.out, HKK.out⟩
  | true =>
    have HF := hide (show D = R by rw [← HR.out]; rfl)
    go_wp2_with fail
    go_region_with (first
      | (go_at_call 128; refine (HOK.out w1.drew (fun W hb => HE.out W (HK.out.trans (hb.mono HK.out.size)))).mono ?_; rintro e w2 ⟨rfl, b2⟩; have HD2 := hide (HD.out.trans (b2.mono HD.out.size)); clear b2; have z0 := (HX.out w2 HD2.out).cell (j := 0) rfl; have z1 := (HX.out w2 HD2.out).cell (j := 1) rfl; have z2 := (HX.out w2 HD2.out).cell (j := 2) rfl; have z3 := (HX.out w2 HD2.out).cell (j := 3) rfl; have z4 := (HX.out w2 HD2.out).cell (j := 4) rfl)
      | (go_at_call 151; refine (HOP.out w2).mono ?_; rintro e w3 ⟨rfl, b3⟩; have HD3 := hide (HD2.out.trans (b3.mono HD2.out.size)); clear b3; have t0 := (HX.out w3 HD3.out).cell (j := 0) rfl; have t1 := (HX.out w3 HD3.out).cell (j := 1) rfl; have t2 := (HX.out w3 HD3.out).cell (j := 2) rfl; have t3 := (HX.out w3 HD3.out).cell (j := 3) rfl; have t4 := (HX.out w3 HD3.out).cell (j := 4) rfl)
      | (go_at_call 129; refine (HSO.out w3 (H2.out.below HD3.out) (H3.out.below HD3.out) (H2.out.below HD3.out) (H3.out.below HD3.out)).mono ?_; rintro e w4 ⟨rfl, b4⟩))
    all_goals
      have HKK := hide ((HA.out.trans (HD3.out.mono HA.out.size)).trans (b4.mono (HA.out.trans (HD3.out.mono HA.out.size)).size))
      clear b4
      go_wp2
      go_ret
      exact ⟨ret_bool HF.out, HKK.out⟩

set_option maxRecDepth 20000 in
set_option maxHeartbeats 1600000 in
theorem implOpOk1 (out : Int) (name text : List Int) (arg n : Int) (hbn : Byt name) (hbt : Byt text) (hl2 : name.length ≤ 1048576) (hl3 : text.length ≤ 1048576) (A2 : Option Addr) (c2 : Nat) (A3 : Option Addr) (c3 : Nat) (w : World) (h2 : Rd w (.slice A2 name.length c2) (bs name)) (h3 : Rd w (.slice A3 text.length c3) (bs text)) :
    Calls Tryd.prog 112 #[.agg #[.int .i64 1, .int .i64 out, .slice A2 name.length c2, .slice A3 text.length c3, .int .i64 arg], .int .i64 n] w fun e w' => e = .returned (.bool (opOk ⟨1, out, name, text, arg⟩ n)) ∧ Below w.heap.size w w' := by
  have hna : ∀ W, (nilAhead 281 156 (.agg #[.int .i64 out, .slice A2 name.length c2, .int .i64 arg]) "loop.example/g00538/impl.op").run Tryd.prog W = .ok (some false) W := fun W => by kernel_rfl
  have hme : ∀ W, (method 281 156 (.agg #[.int .i64 out, .slice A2 name.length c2, .int .i64 arg]) "loop.example/g00538/impl.op").run Tryd.prog W = .ok (152, .agg #[.int .i64 out, .slice A2 name.length c2, .int .i64 arg]) W := fun W => by kernel_rfl
  obtain ⟨B, hB⟩ : ∃ B, (decide (0 ≤ out ∧ out < n) && (entryOk name && decide (0 ≤ arg ∧ arg < 10))) = B := ⟨_, rfl⟩
  obtain ⟨R, hR⟩ : ∃ R, opOk ⟨1, out, name, text, arg⟩ n = R := ⟨_, rfl⟩
  rw [hR]
  have hRB : (B && ((((1 : Int) == 1) && ((out == out) && (decide (name = name) && (decide (text = []) && (arg == arg))))))) = R := by
    rw [← hR, ← hB]
    exact ok1 out name text arg n
  obtain ⟨wa, hwa⟩ : ∃ W, w.alloc (.cells #[.int .i64 1, .int .i64 out, .slice A2 name.length c2, .slice A3 text.length c3, .int .i64 arg] 106) = W := ⟨_, rfl⟩
  have hba : Below w.heap.size w wa := by rw [← hwa]; exact (Below.refl _ _).alloc (Nat.le_refl _) _
  have hv2 := h2.below hba
  have hv3 := h3.below hba
  have bx : Box wa w.heap.size 106 [.int .i64 1, .int .i64 out, .slice A2 name.length c2, .slice A3 text.length c3, .int .i64 arg] := by rw [← hwa]; exact Box.new w _ _
  have x0 := bx.cell (j := 0) rfl
  have x1 := bx.cell (j := 1) rfl
  have x2 := bx.cell (j := 2) rfl
  have x3 := bx.cell (j := 3) rfl
  have x4 := bx.cell (j := 4) rfl
  have HR := hide hRB
  have HA := hide hba
  have HX := hide (fun W (hb : Below wa.heap.size wa W) => bx.step hb)
  have H2 := hide hv2
  have H3 := hide hv3
  have HE := hide (fun W (hb : Below w.heap.size w W) => implEntryQ name hbn (.slice A2 name.length c2) W (h2.below hb))
  have HST := hide (fun W => stated1 out arg A2 name.length c2 A3 text.length c3 W)
  have HOP := hide (fun W => op1 out arg A2 name.length c2 A3 text.length c3 W)
  have HOK := hide (fun W hE => opnOk1 out arg n (entryOk name) A2 name.length c2 A3 text.length c3 W hl3 hE)
  have HSO := hide (fun W h1 h2 h3 h4 => sameOpC 1 out arg 1 out arg name text name [] hbn hbt hbn Byt.nil A2 name.length c2 A3 text.length c3 A2 name.length c2 none 0 0 W h1 h2 h3 h4)
  generalize ((((1 : Int) == 1) && ((out == out) && (decide (name = name) && (decide (text = []) && (arg == arg)))))) = D at *
  rw [hB] at HOK
  clear hRB hba hv2 hv3 h2 h3 hR bx hB
  go_enter Tryd.func112, Tryd.ntmps112
  go_wp2_with fail
  refine (HST.out _).mono ?_
  rintro e w1 ⟨rfl, b1⟩
  have HB1 := hide b1
  have y0 := (HX.out w1 b1).cell (j := 0) rfl
  have y1 := (HX.out w1 b1).cell (j := 1) rfl
  have y2 := (HX.out w1 b1).cell (j := 2) rfl
  have y3 := (HX.out w1 b1).cell (j := 3) rfl
  have y4 := (HX.out w1 b1).cell (j := 4) rfl
  clear b1 x0 x1 x2 x3 x4
  have HD := hide (show Below wa.heap.size wa w1.drew from HB1.out.drew)
  have HK := hide (HA.out.trans (HD.out.mono HA.out.size))
  cases B with
  | false =>
    have HF := hide (show false = R by rw [← HR.out]; rfl)
    go_wp2_with fail
    first
      | go_region_with (go_at_call 128; refine (HOK.out w1.drew (fun W hb => HE.out W (HK.out.trans (hb.mono HK.out.size)))).mono ?_; rintro e w2 ⟨rfl, b2⟩)
      | fail "region"
    all_goals
      have HKK := hide (HK.out.trans (b2.mono HK.out.size))
      clear b2
      go_wp2
      go_ret
      exact ⟨ret_bool HF.out, HKK.out⟩
  | true =>
    have HF := hide (show D = R by rw [← HR.out]; rfl)
    go_wp2_with fail
    go_region_with (first
      | (go_at_call 128; refine (HOK.out w1.drew (fun W hb => HE.out W (HK.out.trans (hb.mono HK.out.size)))).mono ?_; rintro e w2 ⟨rfl, b2⟩; have HD2 := hide (HD.out.trans (b2.mono HD.out.size)); clear b2; have z0 := (HX.out w2 HD2.out).cell (j := 0) rfl; have z1 := (HX.out w2 HD2.out).cell (j := 1) rfl; have z2 := (HX.out w2 HD2.out).cell (j := 2) rfl; have z3 := (HX.out w2 HD2.out).cell (j := 3) rfl; have z4 := (HX.out w2 HD2.out).cell (j := 4) rfl)
      | (go_at_call 152; refine (HOP.out w2).mono ?_; rintro e w3 ⟨rfl, b3⟩; have HD3 := hide (HD2.out.trans (b3.mono HD2.out.size)); clear b3; have t0 := (HX.out w3 HD3.out).cell (j := 0) rfl; have t1 := (HX.out w3 HD3.out).cell (j := 1) rfl; have t2 := (HX.out w3 HD3.out).cell (j := 2) rfl; have t3 := (HX.out w3 HD3.out).cell (j := 3) rfl; have t4 := (HX.out w3 HD3.out).cell (j := 4) rfl)
      | (go_at_call 129; refine (HSO.out w3 (H2.out.below HD3.out) (H3.out.below HD3.out) (H2.out.below HD3.out) (rdNil _)).mono ?_; rintro e w4 ⟨rfl, b4⟩))
    all_goals
      have HKK := hide ((HA.out.trans (HD3.out.mono HA.out.size)).trans (b4.mono (HA.out.trans (HD3.out.mono HA.out.size)).size))
      clear b4
      go_wp2
      go_ret
      exact ⟨ret_bool HF.out, HKK.out⟩

set_option maxRecDepth 20000 in
set_option maxHeartbeats 1600000 in
theorem implOpOk2 (out : Int) (name text : List Int) (arg n : Int) (hbn : Byt name) (hbt : Byt text) (hl2 : name.length ≤ 1048576) (hl3 : text.length ≤ 1048576) (A2 : Option Addr) (c2 : Nat) (A3 : Option Addr) (c3 : Nat) (w : World) (h2 : Rd w (.slice A2 name.length c2) (bs name)) (h3 : Rd w (.slice A3 text.length c3) (bs text)) :
    Calls Tryd.prog 112 #[.agg #[.int .i64 2, .int .i64 out, .slice A2 name.length c2, .slice A3 text.length c3, .int .i64 arg], .int .i64 n] w fun e w' => e = .returned (.bool (opOk ⟨2, out, name, text, arg⟩ n)) ∧ Below w.heap.size w w' := by
  have hna : ∀ W, (nilAhead 281 158 (.agg #[.slice A3 text.length c3]) "loop.example/g00538/impl.op").run Tryd.prog W = .ok (some false) W := fun W => by kernel_rfl
  have hme : ∀ W, (method 281 158 (.agg #[.slice A3 text.length c3]) "loop.example/g00538/impl.op").run Tryd.prog W = .ok (153, .agg #[.slice A3 text.length c3]) W := fun W => by kernel_rfl
  obtain ⟨B, hB⟩ : ∃ B, (decide (text.length ≤ 100)) = B := ⟨_, rfl⟩
  obtain ⟨R, hR⟩ : ∃ R, opOk ⟨2, out, name, text, arg⟩ n = R := ⟨_, rfl⟩
  rw [hR]
  have hRB : (B && ((((2 : Int) == 2) && ((out == 0) && (decide (name = []) && (decide (text = text) && (arg == 0))))))) = R := by
    rw [← hR, ← hB]
    exact ok2 out name text arg n
  obtain ⟨wa, hwa⟩ : ∃ W, w.alloc (.cells #[.int .i64 2, .int .i64 out, .slice A2 name.length c2, .slice A3 text.length c3, .int .i64 arg] 106) = W := ⟨_, rfl⟩
  have hba : Below w.heap.size w wa := by rw [← hwa]; exact (Below.refl _ _).alloc (Nat.le_refl _) _
  have hv2 := h2.below hba
  have hv3 := h3.below hba
  have bx : Box wa w.heap.size 106 [.int .i64 2, .int .i64 out, .slice A2 name.length c2, .slice A3 text.length c3, .int .i64 arg] := by rw [← hwa]; exact Box.new w _ _
  have x0 := bx.cell (j := 0) rfl
  have x1 := bx.cell (j := 1) rfl
  have x2 := bx.cell (j := 2) rfl
  have x3 := bx.cell (j := 3) rfl
  have x4 := bx.cell (j := 4) rfl
  have HR := hide hRB
  have HA := hide hba
  have HX := hide (fun W (hb : Below wa.heap.size wa W) => bx.step hb)
  have H2 := hide hv2
  have H3 := hide hv3
  have HE := hide (fun W (hb : Below w.heap.size w W) => implEntryQ name hbn (.slice A2 name.length c2) W (h2.below hb))
  have HST := hide (fun W => stated2 out arg A2 name.length c2 A3 text.length c3 W)
  have HOP := hide (fun W => op2 out arg A2 name.length c2 A3 text.length c3 W)
  have HOK := hide (fun W hE => opnOk2 out arg n (entryOk name) A2 name.length c2 A3 text.length c3 W hl3 hE)
  have HSO := hide (fun W h1 h2 h3 h4 => sameOpC 2 out arg 2 0 0 name text [] text hbn hbt Byt.nil hbt A2 name.length c2 A3 text.length c3 none 0 0 A3 text.length c3 W h1 h2 h3 h4)
  generalize ((((2 : Int) == 2) && ((out == 0) && (decide (name = []) && (decide (text = text) && (arg == 0)))))) = D at *
  rw [hB] at HOK
  clear hRB hba hv2 hv3 h2 h3 hR bx hB
  go_enter Tryd.func112, Tryd.ntmps112
  go_wp2_with fail
  refine (HST.out _).mono ?_
  rintro e w1 ⟨rfl, b1⟩
  have HB1 := hide b1
  have y0 := (HX.out w1 b1).cell (j := 0) rfl
  have y1 := (HX.out w1 b1).cell (j := 1) rfl
  have y2 := (HX.out w1 b1).cell (j := 2) rfl
  have y3 := (HX.out w1 b1).cell (j := 3) rfl
  have y4 := (HX.out w1 b1).cell (j := 4) rfl
  clear b1 x0 x1 x2 x3 x4
  have HD := hide (show Below wa.heap.size wa w1.drew from HB1.out.drew)
  have HK := hide (HA.out.trans (HD.out.mono HA.out.size))
  cases B with
  | false =>
    have HF := hide (show false = R by rw [← HR.out]; rfl)
    go_wp2_with fail
    first
      | go_region_with (go_at_call 128; refine (HOK.out w1.drew (fun W hb => HE.out W (HK.out.trans (hb.mono HK.out.size)))).mono ?_; rintro e w2 ⟨rfl, b2⟩)
      | fail "region"
    all_goals
      have HKK := hide (HK.out.trans (b2.mono HK.out.size))
      clear b2
      go_wp2
      go_ret
      exact ⟨ret_bool HF.out, HKK.out⟩
  | true =>
    have HF := hide (show D = R by rw [← HR.out]; rfl)
    go_wp2_with fail
    go_region_with (first
      | (go_at_call 128; refine (HOK.out w1.drew (fun W hb => HE.out W (HK.out.trans (hb.mono HK.out.size)))).mono ?_; rintro e w2 ⟨rfl, b2⟩; have HD2 := hide (HD.out.trans (b2.mono HD.out.size)); clear b2; have z0 := (HX.out w2 HD2.out).cell (j := 0) rfl; have z1 := (HX.out w2 HD2.out).cell (j := 1) rfl; have z2 := (HX.out w2 HD2.out).cell (j := 2) rfl; have z3 := (HX.out w2 HD2.out).cell (j := 3) rfl; have z4 := (HX.out w2 HD2.out).cell (j := 4) rfl)
      | (go_at_call 153; refine (HOP.out w2).mono ?_; rintro e w3 ⟨rfl, b3⟩; have HD3 := hide (HD2.out.trans (b3.mono HD2.out.size)); clear b3; have t0 := (HX.out w3 HD3.out).cell (j := 0) rfl; have t1 := (HX.out w3 HD3.out).cell (j := 1) rfl; have t2 := (HX.out w3 HD3.out).cell (j := 2) rfl; have t3 := (HX.out w3 HD3.out).cell (j := 3) rfl; have t4 := (HX.out w3 HD3.out).cell (j := 4) rfl)
      | (go_at_call 129; refine (HSO.out w3 (H2.out.below HD3.out) (H3.out.below HD3.out) (rdNil _) (H3.out.below HD3.out)).mono ?_; rintro e w4 ⟨rfl, b4⟩))
    all_goals
      have HKK := hide ((HA.out.trans (HD3.out.mono HA.out.size)).trans (b4.mono (HA.out.trans (HD3.out.mono HA.out.size)).size))
      clear b4
      go_wp2
      go_ret
      exact ⟨ret_bool HF.out, HKK.out⟩

set_option maxRecDepth 20000 in
set_option maxHeartbeats 1600000 in
theorem implOpOk3 (out : Int) (name text : List Int) (arg n : Int) (hbn : Byt name) (hbt : Byt text) (hl2 : name.length ≤ 1048576) (hl3 : text.length ≤ 1048576) (A2 : Option Addr) (c2 : Nat) (A3 : Option Addr) (c3 : Nat) (w : World) (h2 : Rd w (.slice A2 name.length c2) (bs name)) (h3 : Rd w (.slice A3 text.length c3) (bs text)) :
    Calls Tryd.prog 112 #[.agg #[.int .i64 3, .int .i64 out, .slice A2 name.length c2, .slice A3 text.length c3, .int .i64 arg], .int .i64 n] w fun e w' => e = .returned (.bool (opOk ⟨3, out, name, text, arg⟩ n)) ∧ Below w.heap.size w w' := by
  have hna : ∀ W, (nilAhead 281 160 (.agg #[.slice A2 name.length c2, .int .i64 arg]) "loop.example/g00538/impl.op").run Tryd.prog W = .ok (some false) W := fun W => by kernel_rfl
  have hme : ∀ W, (method 281 160 (.agg #[.slice A2 name.length c2, .int .i64 arg]) "loop.example/g00538/impl.op").run Tryd.prog W = .ok (154, .agg #[.slice A2 name.length c2, .int .i64 arg]) W := fun W => by kernel_rfl
  obtain ⟨B, hB⟩ : ∃ B, (entryOk name && decide (0 ≤ arg ∧ arg < 10)) = B := ⟨_, rfl⟩
  obtain ⟨R, hR⟩ : ∃ R, opOk ⟨3, out, name, text, arg⟩ n = R := ⟨_, rfl⟩
  rw [hR]
  have hRB : (B && ((((3 : Int) == 3) && ((out == 0) && (decide (name = name) && (decide (text = []) && (arg == arg))))))) = R := by
    rw [← hR, ← hB]
    exact ok3 out name text arg n
  obtain ⟨wa, hwa⟩ : ∃ W, w.alloc (.cells #[.int .i64 3, .int .i64 out, .slice A2 name.length c2, .slice A3 text.length c3, .int .i64 arg] 106) = W := ⟨_, rfl⟩
  have hba : Below w.heap.size w wa := by rw [← hwa]; exact (Below.refl _ _).alloc (Nat.le_refl _) _
  have hv2 := h2.below hba
  have hv3 := h3.below hba
  have bx : Box wa w.heap.size 106 [.int .i64 3, .int .i64 out, .slice A2 name.length c2, .slice A3 text.length c3, .int .i64 arg] := by rw [← hwa]; exact Box.new w _ _
  have x0 := bx.cell (j := 0) rfl
  have x1 := bx.cell (j := 1) rfl
  have x2 := bx.cell (j := 2) rfl
  have x3 := bx.cell (j := 3) rfl
  have x4 := bx.cell (j := 4) rfl
  have HR := hide hRB
  have HA := hide hba
  have HX := hide (fun W (hb : Below wa.heap.size wa W) => bx.step hb)
  have H2 := hide hv2
  have H3 := hide hv3
  have HE := hide (fun W (hb : Below w.heap.size w W) => implEntryQ name hbn (.slice A2 name.length c2) W (h2.below hb))
  have HST := hide (fun W => stated3 out arg A2 name.length c2 A3 text.length c3 W)
  have HOP := hide (fun W => op3 out arg A2 name.length c2 A3 text.length c3 W)
  have HOK := hide (fun W hE => opnOk3 out arg n (entryOk name) A2 name.length c2 A3 text.length c3 W hl3 hE)
  have HSO := hide (fun W h1 h2 h3 h4 => sameOpC 3 out arg 3 0 arg name text name [] hbn hbt hbn Byt.nil A2 name.length c2 A3 text.length c3 A2 name.length c2 none 0 0 W h1 h2 h3 h4)
  generalize ((((3 : Int) == 3) && ((out == 0) && (decide (name = name) && (decide (text = []) && (arg == arg)))))) = D at *
  rw [hB] at HOK
  clear hRB hba hv2 hv3 h2 h3 hR bx hB
  go_enter Tryd.func112, Tryd.ntmps112
  go_wp2_with fail
  refine (HST.out _).mono ?_
  rintro e w1 ⟨rfl, b1⟩
  have HB1 := hide b1
  have y0 := (HX.out w1 b1).cell (j := 0) rfl
  have y1 := (HX.out w1 b1).cell (j := 1) rfl
  have y2 := (HX.out w1 b1).cell (j := 2) rfl
  have y3 := (HX.out w1 b1).cell (j := 3) rfl
  have y4 := (HX.out w1 b1).cell (j := 4) rfl
  clear b1 x0 x1 x2 x3 x4
  have HD := hide (show Below wa.heap.size wa w1.drew from HB1.out.drew)
  have HK := hide (HA.out.trans (HD.out.mono HA.out.size))
  cases B with
  | false =>
    have HF := hide (show false = R by rw [← HR.out]; rfl)
    go_wp2_with fail
    first
      | go_region_with (go_at_call 128; refine (HOK.out w1.drew (fun W hb => HE.out W (HK.out.trans (hb.mono HK.out.size)))).mono ?_; rintro e w2 ⟨rfl, b2⟩)
      | fail "region"
    all_goals
      have HKK := hide (HK.out.trans (b2.mono HK.out.size))
      clear b2
      go_wp2
      go_ret
      exact ⟨ret_bool HF.out, HKK.out⟩
  | true =>
    have HF := hide (show D = R by rw [← HR.out]; rfl)
    go_wp2_with fail
    go_region_with (first
      | (go_at_call 128; refine (HOK.out w1.drew (fun W hb => HE.out W (HK.out.trans (hb.mono HK.out.size)))).mono ?_; rintro e w2 ⟨rfl, b2⟩; have HD2 := hide (HD.out.trans (b2.mono HD.out.size)); clear b2; have z0 := (HX.out w2 HD2.out).cell (j := 0) rfl; have z1 := (HX.out w2 HD2.out).cell (j := 1) rfl; have z2 := (HX.out w2 HD2.out).cell (j := 2) rfl; have z3 := (HX.out w2 HD2.out).cell (j := 3) rfl; have z4 := (HX.out w2 HD2.out).cell (j := 4) rfl)
      | (go_at_call 154; refine (HOP.out w2).mono ?_; rintro e w3 ⟨rfl, b3⟩; have HD3 := hide (HD2.out.trans (b3.mono HD2.out.size)); clear b3; have t0 := (HX.out w3 HD3.out).cell (j := 0) rfl; have t1 := (HX.out w3 HD3.out).cell (j := 1) rfl; have t2 := (HX.out w3 HD3.out).cell (j := 2) rfl; have t3 := (HX.out w3 HD3.out).cell (j := 3) rfl; have t4 := (HX.out w3 HD3.out).cell (j := 4) rfl)
      | (go_at_call 129; refine (HSO.out w3 (H2.out.below HD3.out) (H3.out.below HD3.out) (H2.out.below HD3.out) (rdNil _)).mono ?_; rintro e w4 ⟨rfl, b4⟩))
    all_goals
      have HKK := hide ((HA.out.trans (HD3.out.mono HA.out.size)).trans (b4.mono (HA.out.trans (HD3.out.mono HA.out.size)).size))
      clear b4
      go_wp2
      go_ret
      exact ⟨ret_bool HF.out, HKK.out⟩

set_option maxRecDepth 20000 in
set_option maxHeartbeats 1600000 in
theorem implOpOk4 (out : Int) (name text : List Int) (arg n : Int) (hbn : Byt name) (hbt : Byt text) (hl2 : name.length ≤ 1048576) (hl3 : text.length ≤ 1048576) (A2 : Option Addr) (c2 : Nat) (A3 : Option Addr) (c3 : Nat) (w : World) (h2 : Rd w (.slice A2 name.length c2) (bs name)) (h3 : Rd w (.slice A3 text.length c3) (bs text)) :
    Calls Tryd.prog 112 #[.agg #[.int .i64 4, .int .i64 out, .slice A2 name.length c2, .slice A3 text.length c3, .int .i64 arg], .int .i64 n] w fun e w' => e = .returned (.bool (opOk ⟨4, out, name, text, arg⟩ n)) ∧ Below w.heap.size w w' := by
  have hna : ∀ W, (nilAhead 281 162 (.agg #[]) "loop.example/g00538/impl.op").run Tryd.prog W = .ok (some false) W := fun W => by kernel_rfl
  have hme : ∀ W, (method 281 162 (.agg #[]) "loop.example/g00538/impl.op").run Tryd.prog W = .ok (155, .agg #[]) W := fun W => by kernel_rfl
  obtain ⟨B, hB⟩ : ∃ B, (true) = B := ⟨_, rfl⟩
  obtain ⟨R, hR⟩ : ∃ R, opOk ⟨4, out, name, text, arg⟩ n = R := ⟨_, rfl⟩
  rw [hR]
  have hRB : (B && ((((4 : Int) == 4) && ((out == 0) && (decide (name = []) && (decide (text = []) && (arg == 0))))))) = R := by
    rw [← hR, ← hB]
    exact ok4 out name text arg n
  obtain ⟨wa, hwa⟩ : ∃ W, w.alloc (.cells #[.int .i64 4, .int .i64 out, .slice A2 name.length c2, .slice A3 text.length c3, .int .i64 arg] 106) = W := ⟨_, rfl⟩
  have hba : Below w.heap.size w wa := by rw [← hwa]; exact (Below.refl _ _).alloc (Nat.le_refl _) _
  have hv2 := h2.below hba
  have hv3 := h3.below hba
  have bx : Box wa w.heap.size 106 [.int .i64 4, .int .i64 out, .slice A2 name.length c2, .slice A3 text.length c3, .int .i64 arg] := by rw [← hwa]; exact Box.new w _ _
  have x0 := bx.cell (j := 0) rfl
  have x1 := bx.cell (j := 1) rfl
  have x2 := bx.cell (j := 2) rfl
  have x3 := bx.cell (j := 3) rfl
  have x4 := bx.cell (j := 4) rfl
  have HR := hide hRB
  have HA := hide hba
  have HX := hide (fun W (hb : Below wa.heap.size wa W) => bx.step hb)
  have H2 := hide hv2
  have H3 := hide hv3
  have HE := hide (fun W (hb : Below w.heap.size w W) => implEntryQ name hbn (.slice A2 name.length c2) W (h2.below hb))
  have HST := hide (fun W => stated4 out arg A2 name.length c2 A3 text.length c3 W)
  have HOP := hide (fun W => op4 out arg A2 name.length c2 A3 text.length c3 W)
  have HOK := hide (fun W hE => opnOk4 out arg n (entryOk name) A2 name.length c2 A3 text.length c3 W hl3 hE)
  have HSO := hide (fun W h1 h2 h3 h4 => sameOpC 4 out arg 4 0 0 name text [] [] hbn hbt Byt.nil Byt.nil A2 name.length c2 A3 text.length c3 none 0 0 none 0 0 W h1 h2 h3 h4)
  generalize ((((4 : Int) == 4) && ((out == 0) && (decide (name = []) && (decide (text = []) && (arg == 0)))))) = D at *
  rw [hB] at HOK
  clear hRB hba hv2 hv3 h2 h3 hR bx hB
  go_enter Tryd.func112, Tryd.ntmps112
  go_wp2_with fail
  refine (HST.out _).mono ?_
  rintro e w1 ⟨rfl, b1⟩
  have HB1 := hide b1
  have y0 := (HX.out w1 b1).cell (j := 0) rfl
  have y1 := (HX.out w1 b1).cell (j := 1) rfl
  have y2 := (HX.out w1 b1).cell (j := 2) rfl
  have y3 := (HX.out w1 b1).cell (j := 3) rfl
  have y4 := (HX.out w1 b1).cell (j := 4) rfl
  clear b1 x0 x1 x2 x3 x4
  have HD := hide (show Below wa.heap.size wa w1.drew from HB1.out.drew)
  have HK := hide (HA.out.trans (HD.out.mono HA.out.size))
  cases B with
  | false =>
    have HF := hide (show false = R by rw [← HR.out]; rfl)
    go_wp2_with fail
    first
      | go_region_with (go_at_call 128; refine (HOK.out w1.drew (fun W hb => HE.out W (HK.out.trans (hb.mono HK.out.size)))).mono ?_; rintro e w2 ⟨rfl, b2⟩)
      | fail "region"
    all_goals
      have HKK := hide (HK.out.trans (b2.mono HK.out.size))
      clear b2
      go_wp2
      go_ret
      exact ⟨ret_bool HF.out, HKK.out⟩
  | true =>
    have HF := hide (show D = R by rw [← HR.out]; rfl)
    go_wp2_with fail
    go_region_with (first
      | (go_at_call 128; refine (HOK.out w1.drew (fun W hb => HE.out W (HK.out.trans (hb.mono HK.out.size)))).mono ?_; rintro e w2 ⟨rfl, b2⟩; have HD2 := hide (HD.out.trans (b2.mono HD.out.size)); clear b2; have z0 := (HX.out w2 HD2.out).cell (j := 0) rfl; have z1 := (HX.out w2 HD2.out).cell (j := 1) rfl; have z2 := (HX.out w2 HD2.out).cell (j := 2) rfl; have z3 := (HX.out w2 HD2.out).cell (j := 3) rfl; have z4 := (HX.out w2 HD2.out).cell (j := 4) rfl)
      | (go_at_call 155; refine (HOP.out w2).mono ?_; rintro e w3 ⟨rfl, b3⟩; have HD3 := hide (HD2.out.trans (b3.mono HD2.out.size)); clear b3; have t0 := (HX.out w3 HD3.out).cell (j := 0) rfl; have t1 := (HX.out w3 HD3.out).cell (j := 1) rfl; have t2 := (HX.out w3 HD3.out).cell (j := 2) rfl; have t3 := (HX.out w3 HD3.out).cell (j := 3) rfl; have t4 := (HX.out w3 HD3.out).cell (j := 4) rfl)
      | (go_at_call 129; refine (HSO.out w3 (H2.out.below HD3.out) (H3.out.below HD3.out) (rdNil _) (rdNil _)).mono ?_; rintro e w4 ⟨rfl, b4⟩))
    all_goals
      have HKK := hide ((HA.out.trans (HD3.out.mono HA.out.size)).trans (b4.mono (HA.out.trans (HD3.out.mono HA.out.size)).size))
      clear b4
      go_wp2
      go_ret
      exact ⟨ret_bool HF.out, HKK.out⟩

set_option maxRecDepth 20000 in
set_option maxHeartbeats 1600000 in
theorem implOpOk9 (code out arg n : Int) (hc : code < 0 ∨ 4 < code) (A2 : Option Addr) (n2 c2 : Nat) (A3 : Option Addr) (n3 c3 : Nat) (w : World) :
    Calls Tryd.prog 112 #[.agg #[.int .i64 code, .int .i64 out, .slice A2 n2 c2, .slice A3 n3 c3, .int .i64 arg], .int .i64 n] w fun e w' => e = .returned (.bool false) ∧ Below w.heap.size w w' := by
  have HST := hide (fun W => stated9 code hc out arg A2 n2 c2 A3 n3 c3 W)
  obtain ⟨wa, hwa⟩ : ∃ W, w.alloc (.cells #[.int .i64 code, .int .i64 out, .slice A2 n2 c2, .slice A3 n3 c3, .int .i64 arg] 106) = W := ⟨_, rfl⟩
  have HA := hide (show Below w.heap.size w wa by rw [← hwa]; exact (Below.refl _ _).alloc (Nat.le_refl _) _)
  have bx : Box wa w.heap.size 106 [.int .i64 code, .int .i64 out, .slice A2 n2 c2, .slice A3 n3 c3, .int .i64 arg] := by rw [← hwa]; exact Box.new w _ _
  have x0 := bx.cell (j := 0) rfl
  have x1 := bx.cell (j := 1) rfl
  have x2 := bx.cell (j := 2) rfl
  have x3 := bx.cell (j := 3) rfl
  have x4 := bx.cell (j := 4) rfl
  clear bx hc
  go_enter Tryd.func112, Tryd.ntmps112
  go_wp2_with fail
  refine (HST.out _).mono ?_
  rintro e w1 ⟨rfl, b1⟩
  have HK := hide (HA.out.trans ((b1.mono HA.out.size).drew))
  clear b1 x0 x1 x2 x3 x4
  go_wp2_with fail
  first
    | go_region_with (go_at_call 128; refine (opnOk9 n w1.drew).mono ?_; rintro e w2 ⟨rfl, b2⟩)
    | fail "region"
  all_goals
    have HKK := hide (HK.out.trans (b2.mono HK.out.size))
    clear b2
    go_wp2
    go_ret
    exact ⟨rfl, HKK.out⟩
theorem implOpOk (o : DOp) (n : Int) (hok : oks o.cells) (hl2 : o.name.length ≤ 1048576) (hl3 : o.text.length ≤ 1048576) (us : List Value) (w : World) (hs : Ins w o.cells us) :
    Calls Tryd.prog 112 #[.agg us.toArray, .int .i64 n] w fun e w' => e = .returned (.bool (opOk o n)) ∧ Below w.heap.size w w' := by
  obtain ⟨A2, c2, A3, c3, rfl, h2, h3⟩ := DOp.view hs
  obtain ⟨-, ho, hb2, hb3, ha⟩ := (DOp.oks_iff o).1 hok
  by_cases hc : o.code < 0 ∨ 4 < o.code
  · rw [opOk_out hc]
    exact implOpOk9 _ _ _ _ hc _ _ _ _ _ _ _
  · obtain ⟨code, out, name, text, arg⟩ := o
    simp only at *
    rcases (by omega : code = 0 ∨ code = 1 ∨ code = 2 ∨ code = 3 ∨ code = 4) with rfl | rfl | rfl | rfl | rfl
    · exact implOpOk0 out name text arg n hb2 hb3 hl2 hl3 _ _ _ _ w h2.rd h3.rd
    · exact implOpOk1 out name text arg n hb2 hb3 hl2 hl3 _ _ _ _ w h2.rd h3.rd
    · exact implOpOk2 out name text arg n hb2 hb3 hl2 hl3 _ _ _ _ w h2.rd h3.rd
    · exact implOpOk3 out name text arg n hb2 hb3 hl2 hl3 _ _ _ _ w h2.rd h3.rd
    · exact implOpOk4 out name text arg n hb2 hb3 hl2 hl3 _ _ _ _ w h2.rd h3.rd

end Go.Proofs.YtigklnokgmcifaaDoor
