
/-
  The program's OpOk.
-/
import Derived.Test.YtnloknhcdlannaaOp5S
import Derived.Test.YtnloknhcdlannaaBytEq
import Derived.Deep.QuietTactic
import Derived.BigQuiet
import Derived.Deep.RegionWith
namespace Go.Proofs.Ytnloknhcdlannaa
open Go.RowKit
set_option linter.unusedVariables false
set_option linter.unusedSimpArgs false

theorem belowC (i n : Int) (w : World) :
    Calls Try.prog 69 #[.int .i64 i, .int .i64 n] w fun e w' => e = .returned (.bool (decide (0 ≤ i ∧ i < n))) ∧ w = w' := by
  by_cases h0 : 0 ≤ i
  · by_cases h1 : i < n
    · rw [decide_eq_true ⟨h0, h1⟩]
      go_enter Try.func69, Try.ntmps69
      go_wp2
      go_ret
      exact ⟨rfl, rfl⟩
    · rw [decide_eq_false (by omega)]
      go_enter Try.func69, Try.ntmps69
      go_wp2
      go_ret
      exact ⟨rfl, rfl⟩
  · rw [decide_eq_false (by omega)]
    go_enter Try.func69, Try.ntmps69
    go_wp2
    go_ret
    exact ⟨rfl, rfl⟩

theorem stated0 (out arg : Int) (A2 : Option Addr) (n2 c2 : Nat) (A3 : Option Addr) (n3 c3 : Nat) (w : World) :
    Calls Try.prog 38 #[.agg #[.int .i64 0, .int .i64 out, .slice A2 n2 c2, .slice A3 n3 c3, .int .i64 arg]] w fun e w' => e = .returned (.iface 88 (.agg #[.int .i64 out, .slice A2 n2 c2, .slice A3 n3 c3])) ∧ Below w.heap.size w w' := by
  go_enter Try.func38, Try.ntmps38
  go_wp2
  go_ret
  exact ⟨rfl, (Below.refl _ _).alloc (Nat.le_refl _) _⟩
theorem op0 (out arg : Int) (A2 : Option Addr) (n2 c2 : Nat) (A3 : Option Addr) (n3 c3 : Nat) (w : World) :
    Calls Try.prog 120 #[.agg #[.int .i64 out, .slice A2 n2 c2, .slice A3 n3 c3]] w fun e w' => e = .returned (.agg #[.int .i64 0, .int .i64 out, .slice A2 n2 c2, .slice A3 n3 c3, .int .i64 0]) ∧ Below w.heap.size w w' := by
  go_enter Try.func120, Try.ntmps120
  go_wp2
  refine bodyPost_ret (v := .agg #[.int .i64 0, .int .i64 out, .slice A2 n2 c2, .slice A3 n3 c3, .int .i64 0]) (by simp [results, Try.results120, go_sem]) rfl ⟨rfl, ?_⟩
  first
    | exact ((Below.refl _ _).alloc (Nat.le_refl _) _).alloc (by simp) _
    | exact (Below.refl _ _).alloc (Nat.le_refl _) _
theorem stated1 (out arg : Int) (A2 : Option Addr) (n2 c2 : Nat) (A3 : Option Addr) (n3 c3 : Nat) (w : World) :
    Calls Try.prog 38 #[.agg #[.int .i64 1, .int .i64 out, .slice A2 n2 c2, .slice A3 n3 c3, .int .i64 arg]] w fun e w' => e = .returned (.iface 90 (.agg #[.int .i64 out, .slice A2 n2 c2, .int .i64 arg])) ∧ Below w.heap.size w w' := by
  go_enter Try.func38, Try.ntmps38
  go_wp2
  go_ret
  exact ⟨rfl, (Below.refl _ _).alloc (Nat.le_refl _) _⟩
theorem op1 (out arg : Int) (A2 : Option Addr) (n2 c2 : Nat) (A3 : Option Addr) (n3 c3 : Nat) (w : World) :
    Calls Try.prog 121 #[.agg #[.int .i64 out, .slice A2 n2 c2, .int .i64 arg]] w fun e w' => e = .returned (.agg #[.int .i64 1, .int .i64 out, .slice A2 n2 c2, .slice none 0 0, .int .i64 arg]) ∧ Below w.heap.size w w' := by
  go_enter Try.func121, Try.ntmps121
  go_wp2
  refine bodyPost_ret (v := .agg #[.int .i64 1, .int .i64 out, .slice A2 n2 c2, .slice none 0 0, .int .i64 arg]) (by simp [results, Try.results121, go_sem]) rfl ⟨rfl, ?_⟩
  first
    | exact ((Below.refl _ _).alloc (Nat.le_refl _) _).alloc (by simp) _
    | exact (Below.refl _ _).alloc (Nat.le_refl _) _
theorem stated2 (out arg : Int) (A2 : Option Addr) (n2 c2 : Nat) (A3 : Option Addr) (n3 c3 : Nat) (w : World) :
    Calls Try.prog 38 #[.agg #[.int .i64 2, .int .i64 out, .slice A2 n2 c2, .slice A3 n3 c3, .int .i64 arg]] w fun e w' => e = .returned (.iface 92 (.agg #[.slice A3 n3 c3])) ∧ Below w.heap.size w w' := by
  go_enter Try.func38, Try.ntmps38
  go_wp2
  go_ret
  exact ⟨rfl, (Below.refl _ _).alloc (Nat.le_refl _) _⟩
theorem op2 (out arg : Int) (A2 : Option Addr) (n2 c2 : Nat) (A3 : Option Addr) (n3 c3 : Nat) (w : World) :
    Calls Try.prog 122 #[.agg #[.slice A3 n3 c3]] w fun e w' => e = .returned (.agg #[.int .i64 2, .int .i64 0, .slice none 0 0, .slice A3 n3 c3, .int .i64 0]) ∧ Below w.heap.size w w' := by
  go_enter Try.func122, Try.ntmps122
  go_wp2
  refine bodyPost_ret (v := .agg #[.int .i64 2, .int .i64 0, .slice none 0 0, .slice A3 n3 c3, .int .i64 0]) (by simp [results, Try.results122, go_sem]) rfl ⟨rfl, ?_⟩
  first
    | exact ((Below.refl _ _).alloc (Nat.le_refl _) _).alloc (by simp) _
    | exact (Below.refl _ _).alloc (Nat.le_refl _) _
theorem stated3 (out arg : Int) (A2 : Option Addr) (n2 c2 : Nat) (A3 : Option Addr) (n3 c3 : Nat) (w : World) :
    Calls Try.prog 38 #[.agg #[.int .i64 3, .int .i64 out, .slice A2 n2 c2, .slice A3 n3 c3, .int .i64 arg]] w fun e w' => e = .returned (.iface 94 (.agg #[.slice A2 n2 c2, .int .i64 arg])) ∧ Below w.heap.size w w' := by
  go_enter Try.func38, Try.ntmps38
  go_wp2
  go_ret
  exact ⟨rfl, (Below.refl _ _).alloc (Nat.le_refl _) _⟩
theorem op3 (out arg : Int) (A2 : Option Addr) (n2 c2 : Nat) (A3 : Option Addr) (n3 c3 : Nat) (w : World) :
    Calls Try.prog 123 #[.agg #[.slice A2 n2 c2, .int .i64 arg]] w fun e w' => e = .returned (.agg #[.int .i64 3, .int .i64 0, .slice A2 n2 c2, .slice none 0 0, .int .i64 arg]) ∧ Below w.heap.size w w' := by
  go_enter Try.func123, Try.ntmps123
  go_wp2
  refine bodyPost_ret (v := .agg #[.int .i64 3, .int .i64 0, .slice A2 n2 c2, .slice none 0 0, .int .i64 arg]) (by simp [results, Try.results123, go_sem]) rfl ⟨rfl, ?_⟩
  first
    | exact ((Below.refl _ _).alloc (Nat.le_refl _) _).alloc (by simp) _
    | exact (Below.refl _ _).alloc (Nat.le_refl _) _
theorem stated4 (out arg : Int) (A2 : Option Addr) (n2 c2 : Nat) (A3 : Option Addr) (n3 c3 : Nat) (w : World) :
    Calls Try.prog 38 #[.agg #[.int .i64 4, .int .i64 out, .slice A2 n2 c2, .slice A3 n3 c3, .int .i64 arg]] w fun e w' => e = .returned (.iface 96 (.agg #[])) ∧ Below w.heap.size w w' := by
  go_enter Try.func38, Try.ntmps38
  go_wp2
  go_ret
  exact ⟨rfl, (Below.refl _ _).alloc (Nat.le_refl _) _⟩
theorem op4 (out arg : Int) (A2 : Option Addr) (n2 c2 : Nat) (A3 : Option Addr) (n3 c3 : Nat) (w : World) :
    Calls Try.prog 124 #[.agg #[]] w fun e w' => e = .returned (.agg #[.int .i64 4, .int .i64 0, .slice none 0 0, .slice none 0 0, .int .i64 0]) ∧ Below w.heap.size w w' := by
  go_enter Try.func124, Try.ntmps124
  go_wp2
  refine bodyPost_ret (v := .agg #[.int .i64 4, .int .i64 0, .slice none 0 0, .slice none 0 0, .int .i64 0]) (by simp [results, Try.results124, go_sem]) rfl ⟨rfl, ?_⟩
  first
    | exact ((Below.refl _ _).alloc (Nat.le_refl _) _).alloc (by simp) _
    | exact (Below.refl _ _).alloc (Nat.le_refl _) _
theorem stated9 (c : Int) (hc : c < 0 ∨ 4 < c) (out arg : Int) (A2 : Option Addr) (n2 c2 : Nat) (A3 : Option Addr) (n3 c3 : Nat) (w : World) :
    Calls Try.prog 38 #[.agg #[.int .i64 c, .int .i64 out, .slice A2 n2 c2, .slice A3 n3 c3, .int .i64 arg]] w fun e w' => e = .returned .nilIface ∧ Below w.heap.size w w' := by
  have q0 : (c == 0) = false := by simp; omega
  have q1 : (c == 1) = false := by simp; omega
  have q2 : (c == 2) = false := by simp; omega
  have q3 : (c == 3) = false := by simp; omega
  have q4 : (c == 4) = false := by simp; omega
  clear hc
  go_enter Try.func38, Try.ntmps38
  go_wp2
  go_ret
  exact ⟨rfl, (Below.refl _ _).alloc (Nat.le_refl _) _⟩
set_option maxRecDepth 20000 in
set_option maxHeartbeats 1600000 in
theorem opnOk0 (out arg n : Int) (E : Bool) (A2 : Option Addr) (n2 c2 : Nat) (A3 : Option Addr) (n3 c3 : Nat) (w : World) (h3 : n3 ≤ 1048576) (hE : ∀ W, Below w.heap.size w W → Calls Try.prog 70 #[.slice A2 n2 c2] W fun e w' => e = .returned (.bool E) ∧ W = w') :
    Calls Try.prog 39 #[.iface 88 (.agg #[.int .i64 out, .slice A2 n2 c2, .slice A3 n3 c3]), .int .i64 n] w fun e w' => e = .returned (.bool (decide (0 ≤ out ∧ out < n) && (E && decide (n3 ≤ 100)))) ∧ Below w.heap.size w w' := by
  have HE := hide hE
  have hb1 := fun W => belowC out n W
  have hb2 := fun W => belowC arg 10 W
  generalize hd1 : decide (0 ≤ out ∧ out < n) = d1 at *
  generalize hd2 : decide (0 ≤ arg ∧ arg < 10) = d2 at *
  have HB1 := hide hb1
  have HB2 := hide hb2
  have HBS : Hid (∀ o, Below w.heap.size w (w.alloc o)) := hide (fun o => (Below.refl _ _).alloc (Nat.le_refl _) o)
  clear hb1 hb2 hE hd1 hd2
  have ta0 : ∀ (v : Value) (W : World), (Instr.typeAssert (.iface 88 v) 59 88 true).run Try.prog W = .ok (.tuple #[v, .bool true]) W := fun v W => by kernel_rfl
  cases d1 <;> cases E <;> cases d2
  all_goals
    go_enter Try.func39, Try.ntmps39
    go_wp2_with (first
      | (go_at_call 69; (first | (with_reducible refine (HB1.out _).mono ?_) | (with_reducible refine (HB2.out _).mono ?_)); rintro e w' ⟨rfl, rfl⟩)
      | (go_at_call 70; refine (HE.out _ (HBS.out _)).mono ?_; rintro e w' ⟨rfl, rfl⟩))
    go_ret
    exact ⟨ret_bool (by simp <;> omega), HBS.out _⟩
set_option maxRecDepth 20000 in
set_option maxHeartbeats 1600000 in
theorem opnOk1 (out arg n : Int) (E : Bool) (A2 : Option Addr) (n2 c2 : Nat) (A3 : Option Addr) (n3 c3 : Nat) (w : World) (h3 : n3 ≤ 1048576) (hE : ∀ W, Below w.heap.size w W → Calls Try.prog 70 #[.slice A2 n2 c2] W fun e w' => e = .returned (.bool E) ∧ W = w') :
    Calls Try.prog 39 #[.iface 90 (.agg #[.int .i64 out, .slice A2 n2 c2, .int .i64 arg]), .int .i64 n] w fun e w' => e = .returned (.bool (decide (0 ≤ out ∧ out < n) && (E && decide (0 ≤ arg ∧ arg < 10)))) ∧ Below w.heap.size w w' := by
  have HE := hide hE
  have hb1 := fun W => belowC out n W
  have hb2 := fun W => belowC arg 10 W
  generalize hd1 : decide (0 ≤ out ∧ out < n) = d1 at *
  generalize hd2 : decide (0 ≤ arg ∧ arg < 10) = d2 at *
  have HB1 := hide hb1
  have HB2 := hide hb2
  have HBS : Hid (∀ o, Below w.heap.size w (w.alloc o)) := hide (fun o => (Below.refl _ _).alloc (Nat.le_refl _) o)
  clear hb1 hb2 hE hd1 hd2
  have ta0 : ∀ (v : Value) (W : World), (Instr.typeAssert (.iface 90 v) 59 88 true).run Try.prog W = .ok (.tuple #[.agg #[.int .i64 0, .slice none 0 0, .slice none 0 0], .bool false]) W := fun v W => by kernel_rfl
  have ta1 : ∀ (v : Value) (W : World), (Instr.typeAssert (.iface 90 v) 59 90 true).run Try.prog W = .ok (.tuple #[v, .bool true]) W := fun v W => by kernel_rfl
  cases d1 <;> cases E <;> cases d2
  all_goals
    go_enter Try.func39, Try.ntmps39
    go_wp2_with (first
      | (go_at_call 69; (first | (with_reducible refine (HB1.out _).mono ?_) | (with_reducible refine (HB2.out _).mono ?_)); rintro e w' ⟨rfl, rfl⟩)
      | (go_at_call 70; refine (HE.out _ (HBS.out _)).mono ?_; rintro e w' ⟨rfl, rfl⟩))
    go_ret
    exact ⟨ret_bool (by simp <;> omega), HBS.out _⟩
set_option maxRecDepth 20000 in
set_option maxHeartbeats 1600000 in
theorem opnOk2 (out arg n : Int) (E : Bool) (A2 : Option Addr) (n2 c2 : Nat) (A3 : Option Addr) (n3 c3 : Nat) (w : World) (h3 : n3 ≤ 1048576) (hE : ∀ W, Below w.heap.size w W → Calls Try.prog 70 #[.slice A2 n2 c2] W fun e w' => e = .returned (.bool E) ∧ W = w') :
    Calls Try.prog 39 #[.iface 92 (.agg #[.slice A3 n3 c3]), .int .i64 n] w fun e w' => e = .returned (.bool (decide (n3 ≤ 100))) ∧ Below w.heap.size w w' := by
  have HE := hide hE
  have hb1 := fun W => belowC out n W
  have hb2 := fun W => belowC arg 10 W
  generalize hd1 : decide (0 ≤ out ∧ out < n) = d1 at *
  generalize hd2 : decide (0 ≤ arg ∧ arg < 10) = d2 at *
  have HB1 := hide hb1
  have HB2 := hide hb2
  have HBS : Hid (∀ o, Below w.heap.size w (w.alloc o)) := hide (fun o => (Below.refl _ _).alloc (Nat.le_refl _) o)
  clear hb1 hb2 hE hd1 hd2
  have ta0 : ∀ (v : Value) (W : World), (Instr.typeAssert (.iface 92 v) 59 88 true).run Try.prog W = .ok (.tuple #[.agg #[.int .i64 0, .slice none 0 0, .slice none 0 0], .bool false]) W := fun v W => by kernel_rfl
  have ta1 : ∀ (v : Value) (W : World), (Instr.typeAssert (.iface 92 v) 59 90 true).run Try.prog W = .ok (.tuple #[.agg #[.int .i64 0, .slice none 0 0, .int .i64 0], .bool false]) W := fun v W => by kernel_rfl
  have ta2 : ∀ (v : Value) (W : World), (Instr.typeAssert (.iface 92 v) 59 92 true).run Try.prog W = .ok (.tuple #[v, .bool true]) W := fun v W => by kernel_rfl
  cases d1 <;> cases E <;> cases d2
  all_goals
    go_enter Try.func39, Try.ntmps39
    go_wp2_with (first
      | (go_at_call 69; (first | (with_reducible refine (HB1.out _).mono ?_) | (with_reducible refine (HB2.out _).mono ?_)); rintro e w' ⟨rfl, rfl⟩)
      | (go_at_call 70; refine (HE.out _ (HBS.out _)).mono ?_; rintro e w' ⟨rfl, rfl⟩))
    go_ret
    exact ⟨ret_bool (by simp <;> omega), HBS.out _⟩
set_option maxRecDepth 20000 in
set_option maxHeartbeats 1600000 in
theorem opnOk3 (out arg n : Int) (E : Bool) (A2 : Option Addr) (n2 c2 : Nat) (A3 : Option Addr) (n3 c3 : Nat) (w : World) (h3 : n3 ≤ 1048576) (hE : ∀ W, Below w.heap.size w W → Calls Try.prog 70 #[.slice A2 n2 c2] W fun e w' => e = .returned (.bool E) ∧ W = w') :
    Calls Try.prog 39 #[.iface 94 (.agg #[.slice A2 n2 c2, .int .i64 arg]), .int .i64 n] w fun e w' => e = .returned (.bool (E && decide (0 ≤ arg ∧ arg < 10))) ∧ Below w.heap.size w w' := by
  have HE := hide hE
  have hb1 := fun W => belowC out n W
  have hb2 := fun W => belowC arg 10 W
  generalize hd1 : decide (0 ≤ out ∧ out < n) = d1 at *
  generalize hd2 : decide (0 ≤ arg ∧ arg < 10) = d2 at *
  have HB1 := hide hb1
  have HB2 := hide hb2
  have HBS : Hid (∀ o, Below w.heap.size w (w.alloc o)) := hide (fun o => (Below.refl _ _).alloc (Nat.le_refl _) o)
  clear hb1 hb2 hE hd1 hd2
  have ta0 : ∀ (v : Value) (W : World), (Instr.typeAssert (.iface 94 v) 59 88 true).run Try.prog W = .ok (.tuple #[.agg #[.int .i64 0, .slice none 0 0, .slice none 0 0], .bool false]) W := fun v W => by kernel_rfl
  have ta1 : ∀ (v : Value) (W : World), (Instr.typeAssert (.iface 94 v) 59 90 true).run Try.prog W = .ok (.tuple #[.agg #[.int .i64 0, .slice none 0 0, .int .i64 0], .bool false]) W := fun v W => by kernel_rfl
  have ta2 : ∀ (v : Value) (W : World), (Instr.typeAssert (.iface 94 v) 59 92 true).run Try.prog W = .ok (.tuple #[.agg #[.slice none 0 0], .bool false]) W := fun v W => by kernel_rfl
  have ta3 : ∀ (v : Value) (W : World), (Instr.typeAssert (.iface 94 v) 59 94 true).run Try.prog W = .ok (.tuple #[v, .bool true]) W := fun v W => by kernel_rfl
  cases d1 <;> cases E <;> cases d2
  all_goals
    go_enter Try.func39, Try.ntmps39
    go_wp2_with (first
      | (go_at_call 69; (first | (with_reducible refine (HB1.out _).mono ?_) | (with_reducible refine (HB2.out _).mono ?_)); rintro e w' ⟨rfl, rfl⟩)
      | (go_at_call 70; refine (HE.out _ (HBS.out _)).mono ?_; rintro e w' ⟨rfl, rfl⟩))
    go_ret
    exact ⟨ret_bool (by simp <;> omega), HBS.out _⟩
set_option maxRecDepth 20000 in
set_option maxHeartbeats 1600000 in
theorem opnOk4 (out arg n : Int) (E : Bool) (A2 : Option Addr) (n2 c2 : Nat) (A3 : Option Addr) (n3 c3 : Nat) (w : World) (h3 : n3 ≤ 1048576) (hE : ∀ W, Below w.heap.size w W → Calls Try.prog 70 #[.slice A2 n2 c2] W fun e w' => e = .returned (.bool E) ∧ W = w') :
    Calls Try.prog 39 #[.iface 96 (.agg #[]), .int .i64 n] w fun e w' => e = .returned (.bool (true)) ∧ Below w.heap.size w w' := by
  have HE := hide hE
  have hb1 := fun W => belowC out n W
  have hb2 := fun W => belowC arg 10 W
  generalize hd1 : decide (0 ≤ out ∧ out < n) = d1 at *
  generalize hd2 : decide (0 ≤ arg ∧ arg < 10) = d2 at *
  have HB1 := hide hb1
  have HB2 := hide hb2
  have HBS : Hid (∀ o, Below w.heap.size w (w.alloc o)) := hide (fun o => (Below.refl _ _).alloc (Nat.le_refl _) o)
  clear hb1 hb2 hE hd1 hd2
  have ta0 : ∀ (v : Value) (W : World), (Instr.typeAssert (.iface 96 v) 59 88 true).run Try.prog W = .ok (.tuple #[.agg #[.int .i64 0, .slice none 0 0, .slice none 0 0], .bool false]) W := fun v W => by kernel_rfl
  have ta1 : ∀ (v : Value) (W : World), (Instr.typeAssert (.iface 96 v) 59 90 true).run Try.prog W = .ok (.tuple #[.agg #[.int .i64 0, .slice none 0 0, .int .i64 0], .bool false]) W := fun v W => by kernel_rfl
  have ta2 : ∀ (v : Value) (W : World), (Instr.typeAssert (.iface 96 v) 59 92 true).run Try.prog W = .ok (.tuple #[.agg #[.slice none 0 0], .bool false]) W := fun v W => by kernel_rfl
  have ta3 : ∀ (v : Value) (W : World), (Instr.typeAssert (.iface 96 v) 59 94 true).run Try.prog W = .ok (.tuple #[.agg #[.slice none 0 0, .int .i64 0], .bool false]) W := fun v W => by kernel_rfl
  have ta4 : ∀ (v : Value) (W : World), (Instr.typeAssert (.iface 96 v) 59 96 true).run Try.prog W = .ok (.tuple #[v, .bool true]) W := fun v W => by kernel_rfl
  cases d1 <;> cases E <;> cases d2
  all_goals
    go_enter Try.func39, Try.ntmps39
    go_wp2_with (first
      | (go_at_call 69; (first | (with_reducible refine (HB1.out _).mono ?_) | (with_reducible refine (HB2.out _).mono ?_)); rintro e w' ⟨rfl, rfl⟩)
      | (go_at_call 70; refine (HE.out _ (HBS.out _)).mono ?_; rintro e w' ⟨rfl, rfl⟩))
    go_ret
    exact ⟨ret_bool (by simp <;> omega), HBS.out _⟩
set_option maxRecDepth 20000 in
theorem opnOk9 (n : Int) (w : World) :
    Calls Try.prog 39 #[.nilIface, .int .i64 n] w fun e w' => e = .returned (.bool false) ∧ Below w.heap.size w w' := by
  have ta0 : ∀ (W : World), (Instr.typeAssert .nilIface 59 88 true).run Try.prog W = .ok (.tuple #[.agg #[.int .i64 0, .slice none 0 0, .slice none 0 0], .bool false]) W := fun W => by kernel_rfl
  have ta1 : ∀ (W : World), (Instr.typeAssert .nilIface 59 90 true).run Try.prog W = .ok (.tuple #[.agg #[.int .i64 0, .slice none 0 0, .int .i64 0], .bool false]) W := fun W => by kernel_rfl
  have ta2 : ∀ (W : World), (Instr.typeAssert .nilIface 59 92 true).run Try.prog W = .ok (.tuple #[.agg #[.slice none 0 0], .bool false]) W := fun W => by kernel_rfl
  have ta3 : ∀ (W : World), (Instr.typeAssert .nilIface 59 94 true).run Try.prog W = .ok (.tuple #[.agg #[.slice none 0 0, .int .i64 0], .bool false]) W := fun W => by kernel_rfl
  have ta4 : ∀ (W : World), (Instr.typeAssert .nilIface 59 96 true).run Try.prog W = .ok (.tuple #[.agg #[], .bool false]) W := fun W => by kernel_rfl
  go_enter Try.func39, Try.ntmps39
  go_wp2
  go_ret
  exact ⟨rfl, Below.refl _ _⟩

theorem rdNil (w : World) : Rd w (.slice none 0 0) (bs []) := ⟨none, 0, rfl, Nat.le_refl _, Nat.zero_le _, fun h => by simp [bs] at h⟩
set_option maxRecDepth 20000 in
set_option maxHeartbeats 1600000 in
theorem sameOpC (ca oa ga cb ob gb : Int) (na ta nb tb : List Int) (q1 : Byt na) (q2 : Byt ta) (q3 : Byt nb) (q4 : Byt tb) (A2 : Option Addr) (n2 c2 : Nat) (A3 : Option Addr) (n3 c3 : Nat) (B2 : Option Addr) (m2 e2 : Nat) (B3 : Option Addr) (m3 e3 : Nat) (w : World)
    (h1 : Rd w (.slice A2 n2 c2) (bs na)) (h2 : Rd w (.slice A3 n3 c3) (bs ta)) (h3 : Rd w (.slice B2 m2 e2) (bs nb)) (h4 : Rd w (.slice B3 m3 e3) (bs tb)) :
    Calls Try.prog 40 #[.agg #[.int .i64 ca, .int .i64 oa, .slice A2 n2 c2, .slice A3 n3 c3, .int .i64 ga], .agg #[.int .i64 cb, .int .i64 ob, .slice B2 m2 e2, .slice B3 m3 e3, .int .i64 gb]] w fun e w' => e = .returned (.bool ((ca == cb) && ((oa == ob) && (decide (na = nb) && (decide (ta = tb) && (ga == gb)))))) ∧ Below w.heap.size w w' := by
  have E1 := hide (fun W (hb : Below w.heap.size w W) => bytesEq na nb q1 q3 _ _ W (h1.below hb) (h3.below hb))
  have E2 := hide (fun W (hb : Below w.heap.size w W) => bytesEq ta tb q2 q4 _ _ W (h2.below hb) (h4.below hb))
  generalize decide (na = nb) = d1 at *
  generalize decide (ta = tb) = d2 at *
  have HBS : Hid (∀ o o', Below w.heap.size w ((w.alloc o).alloc o')) := hide (fun o o' => ((Below.refl _ _).alloc (Nat.le_refl _) o).alloc (by simp) _)
  clear h1 h2 h3 h4
  cases k1 : (ca == cb) <;> cases k2 : (oa == ob) <;> cases d1 <;> cases d2 <;> cases k3 : (ga == gb)
  all_goals
    go_enter Try.func40, Try.ntmps40
    go_wp2_with (go_at_call 71; (first | (with_reducible refine (E1.out _ (HBS.out _ _)).mono ?_) | (with_reducible refine (E2.out _ (HBS.out _ _)).mono ?_)); rintro e w' ⟨rfl, hww⟩; subst hww)
    go_ret
    exact ⟨ret_bool (by simp), HBS.out _ _⟩

end Go.Proofs.Ytnloknhcdlannaa
