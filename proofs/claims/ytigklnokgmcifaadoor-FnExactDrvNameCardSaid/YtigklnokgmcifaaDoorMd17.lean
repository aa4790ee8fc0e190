/-
  Parts of the proof: Op5S.
-/
import Derived.Test.YtigklnokgmcifaaDoorMd9
import Derived.Test.YtigklnokgmcifaaDoorMd10
import Derived.Test.YtigklnokgmcifaaDoorMd16
import Derived.Test.YtigklnokgmcifaaDoorMd8
import Derived.IntWalk
import Derived.Deep.Cut
import Derived.Deep.DeepCutAuto

/-
  The model's OpOk.
-/
namespace Go.Proofs.YtigklnokgmcifaaDoor
open Go.RowKit
set_option linter.unusedVariables false
set_option linter.unusedSimpArgs false

def opOk (o : DOp) (n : Int) : Bool :=
  if o.code = 0 then decide (0 ≤ o.out ∧ o.out < n) && (entryOk o.name && decide (o.text.length ≤ 100 ∧ o.arg = 0))
  else if o.code = 1 then decide (0 ≤ o.out ∧ o.out < n) && (entryOk o.name && decide (0 ≤ o.arg ∧ o.arg ≤ 9 ∧ o.text.length = 0))
  else if o.code = 2 then decide (o.text.length ≤ 100 ∧ o.out = 0 ∧ o.name.length = 0 ∧ o.arg = 0)
  else if o.code = 3 then entryOk o.name && decide (0 ≤ o.arg ∧ o.arg ≤ 9 ∧ o.out = 0 ∧ o.text.length = 0)
  else decide (o.code = 4 ∧ o.out = 0 ∧ o.name.length = 0 ∧ o.text.length = 0 ∧ o.arg = 0)
theorem entryOk_nil {l : List Int} (h : l.length = 0) : entryOk l = false := entryOk_out (by omega)

set_option maxRecDepth 20000 in
set_option maxHeartbeats 1600000 in
theorem specOpOk0 (out : Int) (name text : List Int) (arg n : Int) (hbo : -9223372036854775808 ≤ out ∧ out ≤ 9223372036854775807) (hbn : Byt name) (hba : -9223372036854775808 ≤ arg ∧ arg ≤ 9223372036854775807) (hn : -9223372036854775808 ≤ n ∧ n ≤ 9223372036854775807) (hl2 : name.length ≤ 1048576) (hl3 : text.length ≤ 1048576) (A2 : Option Addr) (c2 : Nat) (A3 : Option Addr) (c3 : Nat) (w : World) (h2 : Rd w (.slice A2 name.length c2) (bs name)) :
    Calls Tryd.prog 77 #[.agg #[.int .i64 0, .int .i64 out, .slice A2 name.length c2, .slice A3 text.length c3, .int .i64 arg], .int .i64 n] w fun e w' => e = .returned (.bool (opOk ⟨0, out, name, text, arg⟩ n)) ∧ Below w.heap.size w w' := by
  obtain ⟨R, hR⟩ : ∃ R, opOk ⟨0, out, name, text, arg⟩ n = R := ⟨_, rfl⟩
  rw [hR]
  have hE := fun W (hb : Below w.heap.size w W) => specEntryQ name hbn (.slice A2 name.length c2) W (h2.below hb)
  have hen0 := @entryOk_nil name
  simp only [opOk] at hR
  obtain ⟨E, hEE⟩ : ∃ E, entryOk name = E := ⟨_, rfl⟩
  rw [hEE] at hE hR hen0
  obtain ⟨L2, hL2⟩ : ∃ L, name.length = L := ⟨_, rfl⟩
  obtain ⟨L3, hL3⟩ : ∃ L, text.length = L := ⟨_, rfl⟩
  rw [hL2] at hl2 hE hen0
  rw [hL3] at hl3
  try rw [hL2] at hR
  try rw [hL3] at hR
  rw [hL2, hL3]
  cases E with
  | false =>
    have HE := hide hE
    have HR := hide hR
    clear hE hR h2 hEE hL2 hL3 hen0
    go_enter Tryd.func77, Tryd.ntmps77
    go_wp2_with (go_at_call 29; refine (HE.out _ ((Below.refl _ _).alloc (Nat.le_refl _) _)).mono ?_; rintro e w' ⟨rfl, rfl⟩)
    all_goals
      have HRR := HR.out
      clear HR HE
      go_ret
      refine ⟨ret_bool ?_, (Below.refl _ _).alloc (Nat.le_refl _) _⟩
      rw [← HRR]
      clear HRR
      try have hq1 : out ≠ 0 := by simpa using (‹(out != 0) = true›)
      try have hq2 : out = 0 := by simpa using (‹(out != 0) = false›)
      first
        | (simp; done)
        | (simp; omega)
        | (rw [Bool.eq_iff_iff]; simp; omega)
  | true =>
    have hpos : 0 < L2 := Nat.pos_of_ne_zero fun h => by have := hen0 h; cases this
    have HE := hide hE
    have HR := hide hR
    clear hE hR h2 hEE hL2 hL3 hen0
    go_enter Tryd.func77, Tryd.ntmps77
    go_wp2_with (go_at_call 29; refine (HE.out _ ((Below.refl _ _).alloc (Nat.le_refl _) _)).mono ?_; rintro e w' ⟨rfl, rfl⟩)
    all_goals
      have HRR := HR.out
      clear HR HE
      go_ret
      refine ⟨ret_bool ?_, (Below.refl _ _).alloc (Nat.le_refl _) _⟩
      rw [← HRR]
      clear HRR
      try have hq1 : out ≠ 0 := by simpa using (‹(out != 0) = true›)
      try have hq2 : out = 0 := by simpa using (‹(out != 0) = false›)
      first
        | (simp; done)
        | (simp; omega)
        | (rw [Bool.eq_iff_iff]; simp; omega)
set_option maxRecDepth 20000 in
set_option maxHeartbeats 1600000 in
theorem specOpOk1 (out : Int) (name text : List Int) (arg n : Int) (hbo : -9223372036854775808 ≤ out ∧ out ≤ 9223372036854775807) (hbn : Byt name) (hba : -9223372036854775808 ≤ arg ∧ arg ≤ 9223372036854775807) (hn : -9223372036854775808 ≤ n ∧ n ≤ 9223372036854775807) (hl2 : name.length ≤ 1048576) (hl3 : text.length ≤ 1048576) (A2 : Option Addr) (c2 : Nat) (A3 : Option Addr) (c3 : Nat) (w : World) (h2 : Rd w (.slice A2 name.length c2) (bs name)) :
    Calls Tryd.prog 77 #[.agg #[.int .i64 1, .int .i64 out, .slice A2 name.length c2, .slice A3 text.length c3, .int .i64 arg], .int .i64 n] w fun e w' => e = .returned (.bool (opOk ⟨1, out, name, text, arg⟩ n)) ∧ Below w.heap.size w w' := by
  obtain ⟨R, hR⟩ : ∃ R, opOk ⟨1, out, name, text, arg⟩ n = R := ⟨_, rfl⟩
  rw [hR]
  have hE := fun W (hb : Below w.heap.size w W) => specEntryQ name hbn (.slice A2 name.length c2) W (h2.below hb)
  have hen0 := @entryOk_nil name
  simp only [opOk] at hR
  obtain ⟨E, hEE⟩ : ∃ E, entryOk name = E := ⟨_, rfl⟩
  rw [hEE] at hE hR hen0
  obtain ⟨L2, hL2⟩ : ∃ L, name.length = L := ⟨_, rfl⟩
  obtain ⟨L3, hL3⟩ : ∃ L, text.length = L := ⟨_, rfl⟩
  rw [hL2] at hl2 hE hen0
  rw [hL3] at hl3
  try rw [hL2] at hR
  try rw [hL3] at hR
  rw [hL2, hL3]
  cases E with
  | false =>
    have HE := hide hE
    have HR := hide hR
    clear hE hR h2 hEE hL2 hL3 hen0
    go_enter Tryd.func77, Tryd.ntmps77
    go_wp2_with (go_at_call 29; refine (HE.out _ ((Below.refl _ _).alloc (Nat.le_refl _) _)).mono ?_; rintro e w' ⟨rfl, rfl⟩)
    all_goals
      have HRR := HR.out
      clear HR HE
      go_ret
      refine ⟨ret_bool ?_, (Below.refl _ _).alloc (Nat.le_refl _) _⟩
      rw [← HRR]
      clear HRR
      try have hq1 : out ≠ 0 := by simpa using (‹(out != 0) = true›)
      try have hq2 : out = 0 := by simpa using (‹(out != 0) = false›)
      first
        | (simp; done)
        | (simp; omega)
        | (rw [Bool.eq_iff_iff]; simp; omega)
  | true =>
    have hpos : 0 < L2 := Nat.pos_of_ne_zero fun h => by have := hen0 h; cases this
    have HE := hide hE
    have HR := hide hR
    clear hE hR h2 hEE hL2 hL3 hen0
    go_enter Tryd.func77, Tryd.ntmps77
    go_wp2_with (go_at_call 29; refine (HE.out _ ((Below.refl _ _).alloc (Nat.le_refl _) _)).mono ?_; rintro e w' ⟨rfl, rfl⟩)
    all_goals
      have HRR := HR.out
      clear HR HE
      go_ret
      refine ⟨ret_bool ?_, (Below.refl _ _).alloc (Nat.le_refl _) _⟩
      rw [← HRR]
      clear HRR
      try have hq1 : out ≠ 0 := by simpa using (‹(out != 0) = true›)
      try have hq2 : out = 0 := by simpa using (‹(out != 0) = false›)
      first
        | (simp; done)
        | (simp; omega)
        | (rw [Bool.eq_iff_iff]; simp; omega)
set_option maxRecDepth 20000 in
set_option maxHeartbeats 1600000 in
theorem specOpOk2 (out : Int) (name text : List Int) (arg n : Int) (hbo : -9223372036854775808 ≤ out ∧ out ≤ 9223372036854775807) (hbn : Byt name) (hba : -9223372036854775808 ≤ arg ∧ arg ≤ 9223372036854775807) (hn : -9223372036854775808 ≤ n ∧ n ≤ 9223372036854775807) (hl2 : name.length ≤ 1048576) (hl3 : text.length ≤ 1048576) (A2 : Option Addr) (c2 : Nat) (A3 : Option Addr) (c3 : Nat) (w : World) (h2 : Rd w (.slice A2 name.length c2) (bs name)) :
    Calls Tryd.prog 77 #[.agg #[.int .i64 2, .int .i64 out, .slice A2 name.length c2, .slice A3 text.length c3, .int .i64 arg], .int .i64 n] w fun e w' => e = .returned (.bool (opOk ⟨2, out, name, text, arg⟩ n)) ∧ Below w.heap.size w w' := by
  obtain ⟨R, hR⟩ : ∃ R, opOk ⟨2, out, name, text, arg⟩ n = R := ⟨_, rfl⟩
  rw [hR]
  have hE := fun W (hb : Below w.heap.size w W) => specEntryQ name hbn (.slice A2 name.length c2) W (h2.below hb)
  have hen0 := @entryOk_nil name
  simp only [opOk] at hR
  obtain ⟨E, hEE⟩ : ∃ E, entryOk name = E := ⟨_, rfl⟩
  rw [hEE] at hE hR hen0
  obtain ⟨L2, hL2⟩ : ∃ L, name.length = L := ⟨_, rfl⟩
  obtain ⟨L3, hL3⟩ : ∃ L, text.length = L := ⟨_, rfl⟩
  rw [hL2] at hl2 hE hen0
  rw [hL3] at hl3
  try rw [hL2] at hR
  try rw [hL3] at hR
  rw [hL2, hL3]
  cases E with
  | false =>
    have HE := hide hE
    have HR := hide hR
    clear hE hR h2 hEE hL2 hL3 hen0
    go_enter Tryd.func77, Tryd.ntmps77
    go_wp2_with (go_at_call 29; refine (HE.out _ ((Below.refl _ _).alloc (Nat.le_refl _) _)).mono ?_; rintro e w' ⟨rfl, rfl⟩)
    all_goals
      have HRR := HR.out
      clear HR HE
      go_ret
      refine ⟨ret_bool ?_, (Below.refl _ _).alloc (Nat.le_refl _) _⟩
      rw [← HRR]
      clear HRR
      try have hq1 : out ≠ 0 := by simpa using (‹(out != 0) = true›)
      try have hq2 : out = 0 := by simpa using (‹(out != 0) = false›)
      first
        | (simp; done)
        | (simp; omega)
        | (rw [Bool.eq_iff_iff]; simp; omega)
  | true =>
    have hpos : 0 < L2 := Nat.pos_of_ne_zero fun h => by have := hen0 h; cases this
    have HE := hide hE
    have HR := hide hR
    clear hE hR h2 hEE hL2 hL3 hen0
    go_enter Tryd.func77, Tryd.ntmps77
    go_wp2_with (go_at_call 29; refine (HE.out _ ((Below.refl _ _).alloc (Nat.le_refl _) _)).mono ?_; rintro e w' ⟨rfl, rfl⟩)
    all_goals
      have HRR := HR.out
      clear HR HE
      go_ret
      refine ⟨ret_bool ?_, (Below.refl _ _).alloc (Nat.le_refl _) _⟩
      rw [← HRR]
      clear HRR
      try have hq1 : out ≠ 0 := by simpa using (‹(out != 0) = true›)
      try have hq2 : out = 0 := by simpa using (‹(out != 0) = false›)
      first
        | (simp; done)
        | (simp; omega)
        | (rw [Bool.eq_iff_iff]; simp; omega)
set_option maxRecDepth 20000 in
set_option maxHeartbeats 1600000 in
theorem specOpOk3 (out : Int) (name text : List Int) (arg n : Int) (hbo : -9223372036854775808 ≤ out ∧ out ≤ 9223372036854775807) (hbn : Byt name) (hba : -9223372036854775808 ≤ arg ∧ arg ≤ 9223372036854775807) (hn : -9223372036854775808 ≤ n ∧ n ≤ 9223372036854775807) (hl2 : name.length ≤ 1048576) (hl3 : text.length ≤ 1048576) (A2 : Option Addr) (c2 : Nat) (A3 : Option Addr) (c3 : Nat) (w : World) (h2 : Rd w (.slice A2 name.length c2) (bs name)) :
    Calls Tryd.prog 77 #[.agg #[.int .i64 3, .int .i64 out, .slice A2 name.length c2, .slice A3 text.length c3, .int .i64 arg], .int .i64 n] w fun e w' => e = .returned (.bool (opOk ⟨3, out, name, text, arg⟩ n)) ∧ Below w.heap.size w w' := by
  obtain ⟨R, hR⟩ : ∃ R, opOk ⟨3, out, name, text, arg⟩ n = R := ⟨_, rfl⟩
  rw [hR]
  have hE := fun W (hb : Below w.heap.size w W) => specEntryQ name hbn (.slice A2 name.length c2) W (h2.below hb)
  have hen0 := @entryOk_nil name
  simp only [opOk] at hR
  obtain ⟨E, hEE⟩ : ∃ E, entryOk name = E := ⟨_, rfl⟩
  rw [hEE] at hE hR hen0
  obtain ⟨L2, hL2⟩ : ∃ L, name.length = L := ⟨_, rfl⟩
  obtain ⟨L3, hL3⟩ : ∃ L, text.length = L := ⟨_, rfl⟩
  rw [hL2] at hl2 hE hen0
  rw [hL3] at hl3
  try rw [hL2] at hR
  try rw [hL3] at hR
  rw [hL2, hL3]
  cases E with
  | false =>
    have HE := hide hE
    have HR := hide hR
    clear hE hR h2 hEE hL2 hL3 hen0
    go_enter Tryd.func77, Tryd.ntmps77
    go_wp2_with (go_at_call 29; refine (HE.out _ ((Below.refl _ _).alloc (Nat.le_refl _) _)).mono ?_; rintro e w' ⟨rfl, rfl⟩)
    all_goals
      have HRR := HR.out
      clear HR HE
      go_ret
      refine ⟨ret_bool ?_, (Below.refl _ _).alloc (Nat.le_refl _) _⟩
      rw [← HRR]
      clear HRR
      try have hq1 : out ≠ 0 := by simpa using (‹(out != 0) = true›)
      try have hq2 : out = 0 := by simpa using (‹(out != 0) = false›)
      first
        | (simp; done)
        | (simp; omega)
        | (rw [Bool.eq_iff_iff]; simp; omega)
  | true =>
    have hpos : 0 < L2 := Nat.pos_of_ne_zero fun h => by have := hen0 h; cases this
    have HE := hide hE
    have HR := hide hR
    clear hE hR h2 hEE hL2 hL3 hen0
    go_enter Tryd.func77, Tryd.ntmps77
    go_wp2_with (go_at_call 29; refine (HE.out _ ((Below.refl _ _).alloc (Nat.le_refl _) _)).mono ?_; rintro e w' ⟨rfl, rfl⟩)
    all_goals
      have HRR := HR.out
      clear HR HE
      go_ret
      refine ⟨ret_bool ?_, (Below.refl _ _).alloc (Nat.le_refl _) _⟩
      rw [← HRR]
      clear HRR
      try have hq1 : out ≠ 0 := by simpa using (‹(out != 0) = true›)
      try have hq2 : out = 0 := by simpa using (‹(out != 0) = false›)
      first
        | (simp; done)
        | (simp; omega)
        | (rw [Bool.eq_iff_iff]; simp; omega)
set_option maxRecDepth 20000 in
set_option maxHeartbeats 1600000 in
theorem specOpOk4 (out : Int) (name text : List Int) (arg n : Int) (hbo : -9223372036854775808 ≤ out ∧ out ≤ 9223372036854775807) (hbn : Byt name) (hba : -9223372036854775808 ≤ arg ∧ arg ≤ 9223372036854775807) (hn : -9223372036854775808 ≤ n ∧ n ≤ 9223372036854775807) (hl2 : name.length ≤ 1048576) (hl3 : text.length ≤ 1048576) (A2 : Option Addr) (c2 : Nat) (A3 : Option Addr) (c3 : Nat) (w : World) (h2 : Rd w (.slice A2 name.length c2) (bs name)) :
    Calls Tryd.prog 77 #[.agg #[.int .i64 4, .int .i64 out, .slice A2 name.length c2, .slice A3 text.length c3, .int .i64 arg], .int .i64 n] w fun e w' => e = .returned (.bool (opOk ⟨4, out, name, text, arg⟩ n)) ∧ Below w.heap.size w w' := by
  obtain ⟨R, hR⟩ : ∃ R, opOk ⟨4, out, name, text, arg⟩ n = R := ⟨_, rfl⟩
  rw [hR]
  have hE := fun W (hb : Below w.heap.size w W) => specEntryQ name hbn (.slice A2 name.length c2) W (h2.below hb)
  have hen0 := @entryOk_nil name
  simp only [opOk] at hR
  obtain ⟨E, hEE⟩ : ∃ E, entryOk name = E := ⟨_, rfl⟩
  rw [hEE] at hE hR hen0
  obtain ⟨L2, hL2⟩ : ∃ L, name.length = L := ⟨_, rfl⟩
  obtain ⟨L3, hL3⟩ : ∃ L, text.length = L := ⟨_, rfl⟩
  rw [hL2] at hl2 hE hen0
  rw [hL3] at hl3
  try rw [hL2] at hR
  try rw [hL3] at hR
  rw [hL2, hL3]
  cases E with
  | false =>
    have HE := hide hE
    have HR := hide hR
    clear hE hR h2 hEE hL2 hL3 hen0
    go_enter Tryd.func77, Tryd.ntmps77
    go_wp2_with (go_at_call 29; refine (HE.out _ ((Below.refl _ _).alloc (Nat.le_refl _) _)).mono ?_; rintro e w' ⟨rfl, rfl⟩)
    all_goals
      have HRR := HR.out
      clear HR HE
      go_ret
      refine ⟨ret_bool ?_, (Below.refl _ _).alloc (Nat.le_refl _) _⟩
      rw [← HRR]
      clear HRR
      try have hq1 : out ≠ 0 := by simpa using (‹(out != 0) = true›)
      try have hq2 : out = 0 := by simpa using (‹(out != 0) = false›)
      first
        | (simp; done)
        | (simp; omega)
        | (rw [Bool.eq_iff_iff]; simp; omega)
  | true =>
    have hpos : 0 < L2 := Nat.pos_of_ne_zero fun h => by have := hen0 h; cases this
    have HE := hide hE
    have HR := hide hR
    clear hE hR h2 hEE hL2 hL3 hen0
    go_enter Tryd.func77, Tryd.ntmps77
    go_wp2_with (go_at_call 29; refine (HE.out _ ((Below.refl _ _).alloc (Nat.le_refl _) _)).mono ?_; rintro e w' ⟨rfl, rfl⟩)
    all_goals
      have HRR := HR.out
      clear HR HE
      go_ret
      refine ⟨ret_bool ?_, (Below.refl _ _).alloc (Nat.le_refl _) _⟩
      rw [← HRR]
      clear HRR
      try have hq1 : out ≠ 0 := by simpa using (‹(out != 0) = true›)
      try have hq2 : out = 0 := by simpa using (‹(out != 0) = false›)
      first
        | (simp; done)
        | (simp; omega)
        | (rw [Bool.eq_iff_iff]; simp; omega)

set_option maxRecDepth 20000 in
set_option maxHeartbeats 1600000 in
theorem specOpOk9 (code out : Int) (L2 L3 : Nat) (arg n : Int) (hc : code < 0 ∨ 4 < code) (A2 : Option Addr) (c2 : Nat) (A3 : Option Addr) (c3 : Nat) (w : World) :
    Calls Tryd.prog 77 #[.agg #[.int .i64 code, .int .i64 out, .slice A2 L2 c2, .slice A3 L3 c3, .int .i64 arg], .int .i64 n] w fun e w' => e = .returned (.bool false) ∧ Below w.heap.size w w' := by
  rcases hc with hc | hc
  · go_enter Tryd.func77, Tryd.ntmps77
    go_wp2
    go_ret
    exact ⟨rfl, (Below.refl _ _).alloc (Nat.le_refl _) _⟩
  · have hc1 : ¬ code < 0 := by omega
    go_enter Tryd.func77, Tryd.ntmps77
    go_wp2
    go_ret
    exact ⟨rfl, (Below.refl _ _).alloc (Nat.le_refl _) _⟩
theorem opOk_out {o : DOp} {n : Int} (h : o.code < 0 ∨ 4 < o.code) : opOk o n = false := by
  unfold opOk
  rw [if_neg (by omega), if_neg (by omega), if_neg (by omega), if_neg (by omega)]
  exact decide_eq_false (by omega)
theorem specOpOk (o : DOp) (n : Int) (hok : oks o.cells) (hn : -9223372036854775808 ≤ n ∧ n ≤ 9223372036854775807) (hl2 : o.name.length ≤ 1048576) (hl3 : o.text.length ≤ 1048576) (us : List Value) (w : World) (hs : Ins w o.cells us) :
    Calls Tryd.prog 77 #[.agg us.toArray, .int .i64 n] w fun e w' => e = .returned (.bool (opOk o n)) ∧ Below w.heap.size w w' := by
  obtain ⟨A2, c2, A3, c3, rfl, h2, h3⟩ := DOp.view hs
  obtain ⟨-, ho, hb2, hb3, ha⟩ := (DOp.oks_iff o).1 hok
  by_cases hc : o.code < 0 ∨ 4 < o.code
  · rw [opOk_out hc]
    exact specOpOk9 _ _ _ _ _ _ hc _ _ _ _ _
  · obtain ⟨code, out, name, text, arg⟩ := o
    simp only at *
    rcases (by omega : code = 0 ∨ code = 1 ∨ code = 2 ∨ code = 3 ∨ code = 4) with rfl | rfl | rfl | rfl | rfl
    · exact specOpOk0 out name text arg n ho hb2 ha hn hl2 hl3 _ _ _ _ w h2.rd
    · exact specOpOk1 out name text arg n ho hb2 ha hn hl2 hl3 _ _ _ _ w h2.rd
    · exact specOpOk2 out name text arg n ho hb2 ha hn hl2 hl3 _ _ _ _ w h2.rd
    · exact specOpOk3 out name text arg n ho hb2 ha hn hl2 hl3 _ _ _ _ w h2.rd
    · exact specOpOk4 out name text arg n ho hb2 ha hn hl2 hl3 _ _ _ _ w h2.rd

end Go.Proofs.YtigklnokgmcifaaDoor
