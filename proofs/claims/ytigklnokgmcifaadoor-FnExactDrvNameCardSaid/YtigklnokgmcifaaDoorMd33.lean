/-
  Parts of the proof: Op5I.
-/
import Derived.Test.YtigklnokgmcifaaDoorMd17
import Derived.Test.YtigklnokgmcifaaDoorMd7
import Derived.Deep.QuietTactic
import Derived.BigQuiet
import Derived.Deep.RegionWith

/-
  The program's OpOk.
-/
namespace Go.Proofs.YtigklnokgmcifaaDoor
open Go.RowKit
set_option linter.unusedVariables false
set_option linter.unusedSimpArgs false

theorem belowC (i n : Int) (w : World) :
    Calls Tryd.prog 132 #[.int .i64 i, .int .i64 n] w fun e w' => e = .returned (.bool (decide (0 ≤ i ∧ i < n))) ∧ w = w' := by
  by_cases h0 : 0 ≤ i
  · by_cases h1 : i < n
    · rw [decide_eq_true ⟨h0, h1⟩]
      go_enter Tryd.func132, Tryd.ntmps132
      go_wp2
      go_ret
      exact ⟨rfl, rfl⟩
    · rw [decide_eq_false (by omega)]
      go_enter Tryd.func132, Tryd.ntmps132
      go_wp2
      go_ret
      exact ⟨rfl, rfl⟩
  · rw [decide_eq_false (by omega)]
    go_enter Tryd.func132, Tryd.ntmps132
    go_wp2
    go_ret
    exact ⟨rfl, rfl⟩

theorem stated0 (out arg : Int) (A2 : Option Addr) (n2 c2 : Nat) (A3 : Option Addr) (n3 c3 : Nat) (w : World) :
    Calls Tryd.prog 127 #[.agg #[.int .i64 0, .int .i64 out, .slice A2 n2 c2, .slice A3 n3 c3, .int .i64 arg]] w fun e w' => e = .returned (.iface 154 (.agg #[.int .i64 out, .slice A2 n2 c2, .slice A3 n3 c3])) ∧ Below w.heap.size w w' := by
  go_enter Tryd.func127, Tryd.ntmps127
  go_wp2
  go_ret
  exact ⟨rfl, (Below.refl _ _).alloc (Nat.le_refl _) _⟩
theorem op0 (out arg : Int) (A2 : Option Addr) (n2 c2 : Nat) (A3 : Option Addr) (n3 c3 : Nat) (w : World) :
    Calls Tryd.prog 151 #[.agg #[.int .i64 out, .slice A2 n2 c2, .slice A3 n3 c3]] w fun e w' => e = .returned (.agg #[.int .i64 0, .int .i64 out, .slice A2 n2 c2, .slice A3 n3 c3, .int .i64 0]) ∧ Below w.heap.size w w' := by
  go_enter Tryd.func151, Tryd.ntmps151
  go_wp2
  refine bodyPost_ret (v := .agg #[.int .i64 0, .int .i64 out, .slice A2 n2 c2, .slice A3 n3 c3, .int .i64 0]) (by simp [results, Tryd.results151, go_sem]) rfl ⟨rfl, ?_⟩
  first
    | exact ((Below.refl _ _).alloc (Nat.le_refl _) _).alloc (by simp) _
    | exact (Below.refl _ _).alloc (Nat.le_refl _) _
theorem stated1 (out arg : Int) (A2 : Option Addr) (n2 c2 : Nat) (A3 : Option Addr) (n3 c3 : Nat) (w : World) :
    Calls Tryd.prog 127 #[.agg #[.int .i64 1, .int .i64 out, .slice A2 n2 c2, .slice A3 n3 c3, .int .i64 arg]] w fun e w' => e = .returned (.iface 156 (.agg #[.int .i64 out, .slice A2 n2 c2, .int .i64 arg])) ∧ Below w.heap.size w w' := by
  go_enter Tryd.func127, Tryd.ntmps127
  go_wp2
  go_ret
  exact ⟨rfl, (Below.refl _ _).alloc (Nat.le_refl _) _⟩
theorem op1 (out arg : Int) (A2 : Option Addr) (n2 c2 : Nat) (A3 : Option Addr) (n3 c3 : Nat) (w : World) :
    Calls Tryd.prog 152 #[.agg #[.int .i64 out, .slice A2 n2 c2, .int .i64 arg]] w fun e w' => e = .returned (.agg #[.int .i64 1, .int .i64 out, .slice A2 n2 c2, .slice none 0 0, .int .i64 arg]) ∧ Below w.heap.size w w' := by
  go_enter Tryd.func152, Tryd.ntmps152
  go_wp2
  refine bodyPost_ret (v := .agg #[.int .i64 1, .int .i64 out, .slice A2 n2 c2, .slice none 0 0, .int .i64 arg]) (by simp [results, Tryd.results152, go_sem]) rfl ⟨rfl, ?_⟩
  first
    | exact ((Below.refl _ _).alloc (Nat.le_refl _) _).alloc (by simp) _
    | exact (Below.refl _ _).alloc (Nat.le_refl _) _
theorem stated2 (out arg : Int) (A2 : Option Addr) (n2 c2 : Nat) (A3 : Option Addr) (n3 c3 : Nat) (w : World) :
    Calls Tryd.prog 127 #[.agg #[.int .i64 2, .int .i64 out, .slice A2 n2 c2, .slice A3 n3 c3, .int .i64 arg]] w fun e w' => e = .returned (.iface 158 (.agg #[.slice A3 n3 c3])) ∧ Below w.heap.size w w' := by
  go_enter Tryd.func127, Tryd.ntmps127
  go_wp2
  go_ret
  exact ⟨rfl, (Below.refl _ _).alloc (Nat.le_refl _) _⟩
theorem op2 (out arg : Int) (A2 : Option Addr) (n2 c2 : Nat) (A3 : Option Addr) (n3 c3 : Nat) (w : World) :
    Calls Tryd.prog 153 #[.agg #[.slice A3 n3 c3]] w fun e w' => e = .returned (.agg #[.int .i64 2, .int .i64 0, .slice none 0 0, .slice A3 n3 c3, .int .i64 0]) ∧ Below w.heap.size w w' := by
  go_enter Tryd.func153, Tryd.ntmps153
  go_wp2
  refine bodyPost_ret (v := .agg #[.int .i64 2, .int .i64 0, .slice none 0 0, .slice A3 n3 c3, .int .i64 0]) (by simp [results, Tryd.results153, go_sem]) rfl ⟨rfl, ?_⟩
  first
    | exact ((Below.refl _ _).alloc (Nat.le_refl _) _).alloc (by simp) _
    | exact (Below.refl _ _).alloc (Nat.le_refl _) _
theorem stated3 (out arg : Int) (A2 : Option Addr) (n2 c2 : Nat) (A3 : Option Addr) (n3 c3 : Nat) (w : World) :
    Calls Tryd.prog 127 #[.agg #[.int .i64 3, .int .i64 out, .slice A2 n2 c2, .slice A3 n3 c3, .int .i64 arg]] w fun e w' => e = .returned (.iface 160 (.agg #[.slice A2 n2 c2, .int .i64 arg])) ∧ Below w.heap.size w w' := by
  go_enter Tryd.func127, Tryd.ntmps127
  go_wp2
  go_ret
  exact ⟨rfl, (Below.refl _ _).alloc (Nat.le_refl _) _⟩
theorem op3 (out arg : Int) (A2 : Option Addr) (n2 c2 : Nat) (A3 : Option Addr) (n3 c3 : Nat) (w : World) :
    Calls Tryd.prog 154 #[.agg #[.slice A2 n2 c2, .int .i64 arg]] w fun e w' => e = .returned (.agg #[.int .i64 3, .int .i64 0, .slice A2 n2 c2, .slice none 0 0, .int .i64 arg]) ∧ Below w.heap.size w w' := by
  go_enter Tryd.func154, Tryd.ntmps154
  go_wp2
  refine bodyPost_ret (v := .agg #[.int .i64 3, .int .i64 0, .slice A2 n2 c2, .slice none 0 0, .int .i64 arg]) (by simp [results, Tryd.results154, go_sem]) rfl ⟨rfl, ?_⟩
  first
    | exact ((Below.refl _ _).alloc (Nat.le_refl _) _).alloc (by simp) _
    | exact (Below.refl _ _).alloc (Nat.le_refl _) _
theorem stated4 (out arg : Int) (A2 : Option Addr) (n2 c2 : Nat) (A3 : Option Addr) (n3 c3 : Nat) (w : World) :
    Calls Tryd.prog 127 #[.agg #[.int .i64 4, .int .i64 out, .slice A2 n2 c2, .slice A3 n3 c3, .int .i64 arg]] w fun e w' => e = .returned (.iface 162 (.agg #[])) ∧ Below w.heap.size w w' := by
  go_enter Tryd.func127, Tryd.ntmps127
  go_wp2
  go_ret
  exact ⟨rfl, (Below.refl _ _).alloc (Nat.le_refl _) _⟩
theorem op4 (out arg : Int) (A2 : Option Addr) (n2 c2 : Nat) (A3 : Option Addr) (n3 c3 : Nat) (w : World) :
    Calls Tryd.prog 155 #[.agg #[]] w fun e w' => e = .returned (.agg #[.int .i64 4, .int .i64 0, .slice none 0 0, .slice none 0 0, .int .i64 0]) ∧ Below w.heap.size w w' := by
  go_enter Tryd.func155, Tryd.ntmps155
  go_wp2
  refine bodyPost_ret (v := .agg #[.int .i64 4, .int .i64 0, .slice none 0 0, .slice none 0 0, .int .i64 0]) (by simp [results, Tryd.results155, go_sem]) rfl ⟨rfl, ?_⟩
  first
    | exact ((Below.refl _ _).alloc (Nat.le_refl _) _).alloc (by simp) _
    | exact (Below.refl _ _).alloc (Nat.le_refl _) _
theorem stated9 (c : Int) (hc : c < 0 ∨ 4 < c) (out arg : Int) (A2 : Option Addr) (n2 c2 : Nat) (A3 : Option Addr) (n3 c3 : Nat) (w : World) :
    Calls Tryd.prog 127 #[.agg #[.int .i64 c, .int .i64 out, .slice A2 n2 c2, .slice A3 n3 c3, .int .i64 arg]] w fun e w' => e = .returned .nilIface ∧ Below w.heap.size w w' := by
  have q0 : (c == 0) = false := by simp; omega
  have q1 : (c == 1) = false := by simp; omega
  have q2 : (c == 2) = false := by simp; omega
  have q3 : (c == 3) = false := by simp; omega
  have q4 : (c == 4) = false := by simp; omega
  clear hc
  go_enter Tryd.func127, Tryd.ntmps127
  go_wp2
  go_ret
  exact ⟨rfl, (Below.refl _ _).alloc (Nat.le_refl _) _⟩
set_option maxRecDepth 20000 in
set_option maxHeartbeats 1600000 in
theorem opnOk0 (out arg n : Int) (E : Bool) (A2 : Option Addr) (n2 c2 : Nat) (A3 : Option Addr) (n3 c3 : Nat) (w : World) (h3 : n3 ≤ 1048576) (hE : ∀ W, Below w.heap.size w W → Calls Tryd.prog 99 #[.slice A2 n2 c2] W fun e w' => e = .returned (.bool E) ∧ W = w') :
    Calls Tryd.prog 128 #[.iface 154 (.agg #[.int .i64 out, .slice A2 n2 c2, .slice A3 n3 c3]), .int .i64 n] w fun e w' => e = .returned (.bool (decide (0 ≤ out ∧ out < n) && (E && decide (n3 ≤ 100)))) ∧ Below w.heap.size w w' := by
  have HE := hide hE
  have hb1 := fun W => belowC out n W
  have hb2 := fun W => belowC arg 10 W
  generalize hd1 : decide (0 ≤ out ∧ out < n) = d1 at *
  generalize hd2 : decide (0 ≤ arg ∧ arg < 10) = d2 at *
  have HB1 := hide hb1
  have HB2 := hide hb2
  have HBS : Hid (∀ o, Below w.heap.size w (w.alloc o)) := hide (fun o => (Below.refl _ _).alloc (Nat.le_refl _) o)
  clear hb1 hb2 hE hd1 hd2
  have ta0 : ∀ (v : Value) (W : World), (Instr.typeAssert (.iface 154 v) 148 154 true).run Tryd.prog W = .ok (.tuple #[v, .bool true]) W := fun v W => by kernel_rfl
  cases d1 <;> cases E <;> cases d2
  all_goals
    go_enter Tryd.func128, Tryd.ntmps128
    go_wp2_with (first
      | (go_at_call 132; (first | (with_reducible refine (HB1.out _).mono ?_) | (with_reducible refine (HB2.out _).mono ?_)); rintro e w' ⟨rfl, rfl⟩)
      | (go_at_call 99; refine (HE.out _ (HBS.out _)).mono ?_; rintro e w' ⟨rfl, rfl⟩))
    go_ret
    exact ⟨ret_bool (by simp <;> omega), HBS.out _⟩
set_option maxRecDepth 20000 in
set_option maxHeartbeats 1600000 in
theorem opnOk1 (out arg n : Int) (E : Bool) (A2 : Option Addr) (n2 c2 : Nat) (A3 : Option Addr) (n3 c3 : Nat) (w : World) (h3 : n3 ≤ 1048576) (hE : ∀ W, Below w.heap.size w W → Calls Tryd.prog 99 #[.slice A2 n2 c2] W fun e w' => e = .returned (.bool E) ∧ W = w') :
    Calls Tryd.prog 128 #[.iface 156 (.agg #[.int .i64 out, .slice A2 n2 c2, .int .i64 arg]), .int .i64 n] w fun e w' => e = .returned (.bool (decide (0 ≤ out ∧ out < n) && (E && decide (0 ≤ arg ∧ arg < 10)))) ∧ Below w.heap.size w w' := by
  have HE := hide hE
  have hb1 := fun W => belowC out n W
  have hb2 := fun W => belowC arg 10 W
  generalize hd1 : decide (0 ≤ out ∧ out < n) = d1 at *
  generalize hd2 : decide (0 ≤ arg ∧ arg < 10) = d2 at *
  have HB1 := hide hb1
  have HB2 := hide hb2
  have HBS : Hid (∀ o, Below w.heap.size w (w.alloc o)) := hide (fun o => (Below.refl _ _).alloc (Nat.le_refl _) o)
  clear hb1 hb2 hE hd1 hd2
  have ta0 : ∀ (v : Value) (W : World), (Instr.typeAssert (.iface 156 v) 148 154 true).run Tryd.prog W = .ok (.tuple #[.agg #[.int .i64 0, .slice none 0 0, .slice none 0 0], .bool false]) W := fun v W => by kernel_rfl
  have ta1 : ∀ (v : Value) (W : World), (Instr.typeAssert (.iface 156 v) 148 156 true).run Tryd.prog W = .ok (.tuple #[v, .bool true]) W := fun v W => by kernel_rfl
  cases d1 <;> cases E <;> cases d2
  all_goals
    go_enter Tryd.func128, Tryd.ntmps128
    go_wp2_with (first
      | (go_at_call 132; (first | (with_reducible refine (HB1.out _).mono ?_) | (with_reducible refine (HB2.out _).mono ?_)); rintro e w' ⟨rfl, rfl⟩)
      | (go_at_call 99; refine (HE.out _ (HBS.out _)).mono ?_; rintro e w' ⟨rfl, rfl⟩))
    go_ret
    exact ⟨ret_bool (by simp <;> omega), HBS.out _⟩
set_option maxRecDepth 20000 in
set_option maxHeartbeats 1600000 in
theorem opnOk2 (out arg n : Int) (E : Bool) (A2 : Option Addr) (n2 c2 : Nat) (A3 : Option Addr) (n3 c3 : Nat) (w : World) (h3 : n3 ≤ 1048576) (hE : ∀ W, Below w.heap.size w W → Calls Tryd.prog 99 #[.slice A2 n2 c2] W fun e w' => e = .returned (.bool E) ∧ W = w') :
    Calls Tryd.prog 128 #[.iface 158 (.agg #[.slice A3 n3 c3]), .int .i64 n] w fun e w' => e = .returned (.bool (decide (n3 ≤ 100))) ∧ Below w.heap.size w w' := by
  have HE := hide hE
  have hb1 := fun W => belowC out n W
  have hb2 := fun W => belowC arg 10 W
  generalize hd1 : decide (0 ≤ out ∧ out < n) = d1 at *
  generalize hd2 : decide (0 ≤ arg ∧ arg < 10) = d2 at *
  have HB1 := hide hb1
  have HB2 := hide hb2
  have HBS : Hid (∀ o, Below w.heap.size w (w.alloc o)) := hide (fun o => (Below.refl _ _).alloc (Nat.le_refl _) o)
  clear hb1 hb2 hE hd1 hd2
  have ta0 : ∀ (v : Value) (W : World), (Instr.typeAssert (.iface 158 v) 148 154 true).run Tryd.prog W = .ok (.tuple #[.agg #[.int .i64 0, .slice none 0 0, .slice none 0 0], .bool false]) W := fun v W => by kernel_rfl
  have ta1 : ∀ (v : Value) (W : World), (Instr.typeAssert (.iface 158 v) 148 156 true).run Tryd.prog W = .ok (.tuple #[.agg #[.int .i64 0, .slice none 0 0, .int .i64 0], .bool false]) W := fun v W => by kernel_rfl
  have ta2 : ∀ (v : Value) (W : World), (Instr.typeAssert (.iface 158 v) 148 158 true).run Tryd.prog W = .ok (.tuple #[v, .bool true]) W := fun v W => by kernel_rfl
  cases d1 <;> cases E <;> cases d2
  all_goals
    go_enter Tryd.func128, Tryd.ntmps128
    go_wp2_with (first
      | (go_at_call 132; (first | (with_reducible refine (HB1.out _).mono ?_) | (with_reducible refine (HB2.out _).mono ?_)); rintro e w' ⟨rfl, rfl⟩)
      | (go_at_call 99; refine (HE.out _ (HBS.out _)).mono ?_; rintro e w' ⟨rfl, rfl⟩))
    go_ret
    exact ⟨ret_bool (by simp <;> omega), HBS.out _⟩
set_option maxRecDepth 20000 in
set_option maxHeartbeats 1600000 in
theorem opnOk3 (out arg n : Int) (E : Bool) (A2 : Option Addr) (n2 c2 : Nat) (A3 : Option Addr) (n3 c3 : Nat) (w : World) (h3 : n3 ≤ 1048576) (hE : ∀ W, Below w.heap.size w W → Calls Tryd.prog 99 #[.slice A2 n2 c2] W fun e w' => e = .returned (.bool E) ∧ W = w') :
    Calls Tryd.prog 128 #[.iface 160 (.agg #[.slice A2 n2 c2, .int .i64 arg]), .int .i64 n] w fun e w' => e = .returned (.bool (E && decide (0 ≤ arg ∧ arg < 10))) ∧ Below w.heap.size w w' := by
  have HE := hide hE
  have hb1 := fun W => belowC out n W
  have hb2 := fun W => belowC arg 10 W
  generalize hd1 : decide (0 ≤ out ∧ out < n) = d1 at *
  generalize hd2 : decide (0 ≤ arg ∧ arg < 10) = d2 at *
  have HB1 := hide hb1
  have HB2 := hide hb2
  have HBS : Hid (∀ o, Below w.heap.size w (w.alloc o)) := hide (fun o => (Below.refl _ _).alloc (Nat.le_refl _) o)
  clear hb1 hb2 hE hd1 hd2
  have ta0 : ∀ (v : Value) (W : World), (Instr.typeAssert (.iface 160 v) 148 154 true).run Tryd.prog W = .ok (.tuple #[.agg #[.int .i64 0, .slice none 0 0, .slice none 0 0], .bool false]) W := fun v W => by kernel_rfl
  have ta1 : ∀ (v : Value) (W : World), (Instr.typeAssert (.iface 160 v) 148 156 true).run Tryd.prog W = .ok (.tuple #[.agg #[.int .i64 0, .slice none 0 0, .int .i64 0], .bool false]) W := fun v W => by kernel_rfl
  have ta2 : ∀ (v : Value) (W : World), (Instr.typeAssert (.iface 160 v) 148 158 true).run Tryd.prog W = .ok (.tuple #[.agg #[.slice none 0 0], .bool false]) W := fun v W => by kernel_rfl
  have ta3 : ∀ (v : Value) (W : World), (Instr.typeAssert (.iface 160 v) 148 160 true).run Tryd.prog W = .ok (.tuple #[v, .bool true]) W := fun v W => by kernel_rfl
  cases d1 <;> cases E <;> cases d2
  all_goals
    go_enter Tryd.func128, Tryd.ntmps128
    go_wp2_with (first
      | (go_at_call 132; (first | (with_reducible refine (HB1.out _).mono ?_) | (with_reducible refine (HB2.out _).mono ?_)); rintro e w' ⟨rfl, rfl⟩)
      | (go_at_call 99; refine (HE.out _ (HBS.out _)).mono ?_; rintro e w' ⟨rfl, rfl⟩))
    go_ret
    exact ⟨ret_bool (by simp <;> omega), HBS.out _⟩
set_option maxRecDepth 20000 in
set_option maxHeartbeats 1600000 in
theorem opnOk4 (out arg n : Int) (E : Bool) (A2 : Option Addr) (n2 c2 : Nat) (A3 : Option Addr) (n3 c3 : Nat) (w : World) (h3 : n3 ≤ 1048576) (hE : ∀ W, Below w.heap.size w W → Calls Tryd.prog 99 #[.slice A2 n2 c2] W fun e w' => e = .returned (.bool E) ∧ W = w') :
    Calls Tryd.prog 128 #[.iface 162 (.agg #[]), .int .i64 n] w fun e w' => e = .returned (.bool (true)) ∧ Below w.heap.size w w' := by
  have HE := hide hE
  have hb1 := fun W => belowC out n W
  have hb2 := fun W => belowC arg 10 W
  generalize hd1 : decide (0 ≤ out ∧ out < n) = d1 at *
  generalize hd2 : decide (0 ≤ arg ∧ arg < 10) = d2 at *
  have HB1 := hide hb1
  have HB2 := hide hb2
  have HBS : Hid (∀ o, Below w.heap.size w (w.alloc o)) := hide (fun o => (Below.refl _ _).alloc (Nat.le_refl _) o)
  clear hb1 hb2 hE hd1 hd2
  have ta0 : ∀ (v : Value) (W : World), (Instr.typeAssert (.iface 162 v) 148 154 true).run Tryd.prog W = .ok (.tuple #[.agg #[.int .i64 0, .slice none 0 0, .slice none 0 0], .bool false]) W := fun v W => by kernel_rfl
  have ta1 : ∀ (v : Value) (W : World), (Instr.typeAssert (.iface 162 v) 148 156 true).run Tryd.prog W = .ok (.tuple #[.agg #[.int .i64 0, .slice none 0 0, .int .i64 0], .bool false]) W := fun v W => by kernel_rfl
  have ta2 : ∀ (v : Value) (W : World), (Instr.typeAssert (.iface 162 v) 148 158 true).run Tryd.prog W = .ok (.tuple #[.agg #[.slice none 0 0], .bool false]) W := fun v W => by kernel_rfl
  have ta3 : ∀ (v : Value) (W : World), (Instr.typeAssert (.iface 162 v) 148 160 true).run Tryd.prog W = .ok (.tuple #[.agg #[.slice none 0 0, .int .i64 0], .bool false]) W := fun v W => by kernel_rfl
  have ta4 : ∀ (v : Value) (W : World), (Instr.typeAssert (.iface 162 v) 148 162 true).run Tryd.prog W = .ok (.tuple #[v, .bool true]) W := fun v W => by kernel_rfl
  cases d1 <;> cases E <;> cases d2
  all_goals
    go_enter Tryd.func128, Tryd.ntmps128
    go_wp2_with (first
      | (go_at_call 132; (first | (with_reducible refine (HB1.out _).mono ?_) | (with_reducible refine (HB2.out _).mono ?_)); rintro e w' ⟨rfl, rfl⟩)
      | (go_at_call 99; refine (HE.out _ (HBS.out _)).mono ?_; rintro e w' ⟨rfl, rfl⟩))
    go_ret
    exact ⟨ret_bool (by simp <;> omega), HBS.out _⟩
set_option maxRecDepth 20000 in
theorem opnOk9 (n : Int) (w : World) :
    Calls Tryd.prog 128 #[.nilIface, .int .i64 n] w fun e w' => e = .returned (.bool false) ∧ Below w.heap.size w w' := by
  have ta0 : ∀ (W : World), (Instr.typeAssert .nilIface 148 154 true).run Tryd.prog W = .ok (.tuple #[.agg #[.int .i64 0, .slice none 0 0, .slice none 0 0], .bool false]) W := fun W => by kernel_rfl
  have ta1 : ∀ (W : World), (Instr.typeAssert .nilIface 148 156 true).run Tryd.prog W = .ok (.tuple #[.agg #[.int .i64 0, .slice none 0 0, .int .i64 0], .bool false]) W := fun W => by kernel_rfl
  have ta2 : ∀ (W : World), (Instr.typeAssert .nilIface 148 158 true).run Tryd.prog W = .ok (.tuple #[.agg #[.slice none 0 0], .bool false]) W := fun W => by kernel_rfl
  have ta3 : ∀ (W : World), (Instr.typeAssert .nilIface 148 160 true).run Tryd.prog W = .ok (.tuple #[.agg #[.slice none 0 0, .int .i64 0], .bool false]) W := fun W => by kernel_rfl
  have ta4 : ∀ (W : World), (Instr.typeAssert .nilIface 148 162 true).run Tryd.prog W = .ok (.tuple #[.agg #[], .bool false]) W := fun W => by kernel_rfl
  go_enter Tryd.func128, Tryd.ntmps128
  go_wp2
  go_ret
  exact ⟨rfl, Below.refl _ _⟩

theorem rdNil (w : World) : Rd w (.slice none 0 0) (bs []) := ⟨none, 0, rfl, Nat.le_refl _, Nat.zero_le _, fun h => by simp [bs] at h⟩
set_option maxRecDepth 20000 in
set_option maxHeartbeats 1600000 in
theorem sameOpC (ca oa ga cb ob gb : Int) (na ta nb tb : List Int) (q1 : Byt na) (q2 : Byt ta) (q3 : Byt nb) (q4 : Byt tb) (A2 : Option Addr) (n2 c2 : Nat) (A3 : Option Addr) (n3 c3 : Nat) (B2 : Option Addr) (m2 e2 : Nat) (B3 : Option Addr) (m3 e3 : Nat) (w : World)
    (h1 : Rd w (.slice A2 n2 c2) (bs na)) (h2 : Rd w (.slice A3 n3 c3) (bs ta)) (h3 : Rd w (.slice B2 m2 e2) (bs nb)) (h4 : Rd w (.slice B3 m3 e3) (bs tb)) :
    Calls Tryd.prog 129 #[.agg #[.int .i64 ca, .int .i64 oa, .slice A2 n2 c2, .slice A3 n3 c3, .int .i64 ga], .agg #[.int .i64 cb, .int .i64 ob, .slice B2 m2 e2, .slice B3 m3 e3, .int .i64 gb]] w fun e w' => e = .returned (.bool ((ca == cb) && ((oa == ob) && (decide (na = nb) && (decide (ta = tb) && (ga == gb)))))) ∧ Below w.heap.size w w' := by
  have E1 := hide (fun W (hb : Below w.heap.size w W) => bytesEq na nb q1 q3 _ _ W (h1.below hb) (h3.below hb))
  have E2 := hide (fun W (hb : Below w.heap.size w W) => bytesEq ta tb q2 q4 _ _ W (h2.below hb) (h4.below hb))
  generalize decide (na = nb) = d1 at *
  generalize decide (ta = tb) = d2 at *
  have HBS : Hid (∀ o o', Below w.heap.size w ((w.alloc o).alloc o')) := hide (fun o o' => ((Below.refl _ _).alloc (Nat.le_refl _) o).alloc (by simp) _)
  clear h1 h2 h3 h4
  cases k1 : (ca == cb) <;> cases k2 : (oa == ob) <;> cases d1 <;> cases d2 <;> cases k3 : (ga == gb)
  all_goals
    go_enter Tryd.func129, Tryd.ntmps129
    go_wp2_with (go_at_call 39; (first | (with_reducible refine (E1.out _ (HBS.out _ _)).mono ?_) | (with_reducible refine (E2.out _ (HBS.out _ _)).mono ?_)); rintro e w' ⟨rfl, hww⟩; subst hww)
    go_ret
    exact ⟨ret_bool (by simp), HBS.out _ _⟩

end Go.Proofs.YtigklnokgmcifaaDoor
