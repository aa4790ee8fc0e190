
/-
  The order of byte strings: the model's strings and the program's bytes.Compare.
-/
import Derived.Test.YtnloknhcdlannaaConv
import Derived.Lib.BytesEntry
namespace Go.Proofs.Ytnloknhcdlannaa
open Go.RowKit
set_option linter.unusedVariables false

def lessL : List Int → List Int → Bool
  | _, [] => false
  | [], _ :: _ => true
  | x :: a, y :: b => decide (x < y) || (x == y && lessL a b)

theorem u8_lt {x y : Int} (hx : 0 ≤ x ∧ x ≤ 255) (hy : 0 ≤ y ∧ y ≤ 255) : decide (UInt8.ofNat x.toNat < UInt8.ofNat y.toNat) = decide (x < y) := by
  have e : (UInt8.ofNat x.toNat < UInt8.ofNat y.toNat) ↔ x < y := by
    rw [UInt8.lt_iff_toNat_lt, UInt8.toNat_ofNat', UInt8.toNat_ofNat']
    omega
  exact decide_eq_decide.2 e
theorem u8_eq {x y : Int} (hx : 0 ≤ x ∧ x ≤ 255) (hy : 0 ≤ y ∧ y ≤ 255) : (UInt8.ofNat x.toNat == UInt8.ofNat y.toNat) = (x == y) := by
  have e : (UInt8.ofNat x.toNat = UInt8.ofNat y.toNat) ↔ x = y := by
    rw [← UInt8.toNat_inj, UInt8.toNat_ofNat', UInt8.toNat_ofNat']
    omega
  by_cases h : x = y
  · subst h; simp
  · have h2 : ¬ UInt8.ofNat x.toNat = UInt8.ofNat y.toNat := fun h3 => h (e.1 h3)
    have e1 : (UInt8.ofNat x.toNat == UInt8.ofNat y.toNat) = false := by simpa using h2
    have e2 : (x == y) = false := by simpa using h
    rw [e1, e2]
theorem less_str {a b : List Int} (ha : Byt a) (hb : Byt b) : Op.bytesLess (strOfNums a).toList (strOfNums b).toList = lessL a b := by
  rw [ByteArray.toList_eq, ByteArray.toList_eq, strOfNums_data, strOfNums_data]
  induction a generalizing b with
  | nil =>
    cases b with
    | nil => rfl
    | cons y b => rfl
  | cons x a ih =>
    cases b with
    | nil => rfl
    | cons y b =>
      have hx := ha x (List.mem_cons_self ..)
      have hy := hb y (List.mem_cons_self ..)
      simp only [List.map_cons, Op.bytesLess, lessL]
      rw [u8_lt hx hy, u8_eq hx hy, ih (fun z hz => ha z (List.mem_cons_of_mem _ hz)) (fun z hz => hb z (List.mem_cons_of_mem _ hz))]
theorem cmp_less : ∀ (a b : List UInt8), 0 ≤ Lib.compareBytes a b ↔ Op.bytesLess a b = false
  | [], [] => by simp [Lib.compareBytes, Op.bytesLess]
  | [], _ :: _ => by simp [Lib.compareBytes, Op.bytesLess]
  | _ :: _, [] => by simp [Lib.compareBytes, Op.bytesLess]
  | x :: a, y :: b => by
    have ih := cmp_less a b
    unfold Lib.compareBytes Op.bytesLess
    by_cases h1 : x < y
    · simp [h1]
    · by_cases h2 : y < x
      · have h3 : (x == y) = false := by
          have : x ≠ y := fun e => by subst e; exact UInt8.lt_irrefl _ h2
          simpa using this
        simp [h1, h2, h3]
      · have h3 : x = y := UInt8.le_antisymm (UInt8.not_lt.1 h2) (UInt8.not_lt.1 h1)
        subst h3
        rw [if_neg h1, if_neg h1, ih]
        simp [h1]

/-- What the comparison of two slices gives. -/
def cmpI (a b : List Int) : Int := Lib.compareBytes (strOfNums a).data.toList (strOfNums b).data.toList
theorem cmpI_less {a b : List Int} (ha : Byt a) (hb : Byt b) : decide (0 ≤ cmpI a b) = !lessL a b := by
  have h := cmp_less (strOfNums a).data.toList (strOfNums b).data.toList
  have e := less_str ha hb
  rw [ByteArray.toList_eq, ByteArray.toList_eq] at e
  rw [e] at h
  unfold cmpI
  cases hl : lessL a b with
  | false => rw [hl] at h; exact decide_eq_true (h.2 rfl)
  | true => rw [hl] at h; exact decide_eq_false fun h2 => by cases h.1 h2

theorem bytesOf_rd {P : Program} {w : World} {v : Value} {l : List Int} (h : Rd w v (bs l)) : (Extern.Bytes.bytesOf v).run P w = .ok (strOfNums l) w := by
  obtain ⟨A, c, rfl, hc, hm, hcell⟩ := h
  rw [bs_length] at *
  cases A with
  | none =>
    have h0 : l = [] := by
      rcases Nat.eq_zero_or_pos l.length with h | h
      · exact List.eq_nil_of_length_eq_zero h
      · obtain ⟨b, off, hA, _⟩ := hcell h
        cases hA
    subst h0
    rfl
  | some ad =>
    have := Lib.run_loadBytesX (P := P) w l ad .empty (fun j x hj => by
      have hjl : j < l.length := (List.getElem?_eq_some_iff.1 hj).1
      obtain ⟨b, off, hA, _, hc⟩ := hcell (by omega)
      injection hA with hA
      subst hA
      rw [Addr.add_lit]
      refine hc j _ ?_
      rw [bs, List.getElem?_map, hj]
      rfl)
    simp only [Extern.Bytes.bytesOf]
    rw [this]
    simp [strOfNums, Lib.bytesOf, ByteArray.empty, ByteArray.emptyWithCapacity]
    rfl

theorem ext_compare (a b : List Int) (v1 v2 : Value) (w : World) (h1 : Rd w v1 (bs a)) (h2 : Rd w v2 (bs b)) : (callFunc 94 #[v1, v2]).run Try.prog w = .ok (.value (.int .i64 (cmpI a b))) w := by
  have hr : (Extern.BytealgCompare.compare #[v1, v2]).run Try.prog w = .ok (.int .i64 (cmpI a b)) w := by
    change Sem.run Try.prog (do pure (goInt (Extern.BytealgCompare.cmp (← Extern.Bytes.bytesOf v1) (← Extern.Bytes.bytesOf v2)))) w = _
    simp only [Sem.run_bind, bytesOf_rd h1, bytesOf_rd h2, Sem.run_pure, Result.andThen]
    rw [Lib.cmp_eq]
    rfl
  rw [run_callFunc_extern Try.func94 (by kernel_rfl) (by kernel_rfl) (by kernel_rfl) (e := Extern.BytealgCompare.compare) (by kernel_rfl), hr]
  rfl

set_option maxHeartbeats 400000 in
theorem compare (a b : List Int) (v1 v2 : Value) (w : World) (h1 : Rd w v1 (bs a)) (h2 : Rd w v2 (bs b)) :
    Calls Try.prog 83 #[v1, v2] w fun e w' => e = .returned (.int .i64 (cmpI a b)) ∧ w = w' := by
  have hx := ext_compare a b v1 v2 w h1 h2
  clear h1 h2
  go_enter Try.func83, Try.ntmps83
  go_wp2
  go_ret
  exact ⟨rfl, rfl⟩

end Go.Proofs.Ytnloknhcdlannaa
