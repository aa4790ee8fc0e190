/-
  Parts of the proof: Arr, Bytes, Clone.
-/
import Derived.Test.YtigklnokgmcifaaDoorMd0
import Derived.Test.YtigklnokgmcifaaDoorMd2
import Derived.Laws.Tables
import Derived.Deep.QuietTactic
import Derived.BigQuiet

/-
  Arrays of words in blocks of their own.
-/
namespace Go.Proofs.YtigklnokgmcifaaDoor
open Go.RowKit

def wd (ws : List Int) : Array Value := (ws.map (Value.int .u32)).toArray
theorem wd_size (ws : List Int) : (wd ws).size = ws.length := by simp [wd]
theorem wd_one (ws : List Int) : (wd ws).all (·.oneCell') = true := by
  rw [Array.all_eq_true_iff_forall_mem]
  intro v hv
  simp only [wd, List.mem_toArray] at hv
  obtain ⟨_, _, rfl⟩ := List.mem_map.1 hv
  rfl
/-- Block g is just these cells, none of them frozen. -/
def At (w : World) (g : Nat) (t : TypeId) (cs : Array Value) : Prop := w.heap[g]? = some (.cells cs t (0, 0))
section
variable {w w' : World} {g : Nat} {t : TypeId} {cs : Array Value} {ws : List Int}
theorem At.lt (h : At w g t cs) : g < w.heap.size := (Array.getElem?_eq_some_iff.1 h).1
theorem At.cell (h : At w g t (wd ws)) {i : Nat} (hi : i < ws.length) : w.cell? ⟨g, i, none⟩ = some (.int .u32 (ws.getD i 0)) := by
  rw [cell_of_row w g i _ t (0, 0) h]
  simp [wd, List.getD, hi]
theorem At.frozen (h : At w g t cs) (i : Nat) : w.frozen? ⟨g, i, none⟩ = false := frozen_of_row w g i cs t h
theorem At.set_ (h : At w g t (wd ws)) (i : Nat) (x : Int) : At (w.setCell ⟨g, i, none⟩ (.int .u32 x)) g t (wd (ws.set i x)) := by
  have e : wd (ws.set i x) = (wd ws).setIfInBounds i (.int .u32 x) := by
    apply Array.ext'
    simp [wd, List.map_set]
  rw [e]
  exact heap_setCell_same w g i _ t _ h
theorem At.below {B : Nat} (h : At w g t cs) (hb : Below B w w') (hg : g < B) : At w' g t cs := (hb.block g hg).trans h
theorem At.step (h : At w g t cs) (hb : Below w.heap.size w w') : At w' g t cs := h.below hb h.lt
theorem At.far (h : At w g t cs) {p : Addr} (hp : g ≠ p.block) (u : Value) : At (w.setCell p u) g t cs := (Below.heap_setCell w p u g hp).trans h
theorem At.drewN (h : At w g t cs) (n : Nat) : At (w.drewN n) g t cs := h
theorem At.alloc (h : At w g t cs) (o : Obj) : At (w.alloc o) g t cs := (Below.heap_alloc w o g h.lt).trans h
theorem At.setRow (h : At w g t cs) (cs' : Array Value) : At (w.setRow g cs') g t cs' := setRow_heap w g cs cs' t _ h
end
theorem below_setRow {B : Nat} {a w : World} (h : Below B a w) {g : Nat} (hg : B ≤ g) (cs : Array Value) : Below B a (w.setRow g cs) :=
  h.trans ⟨rfl, rfl, rfl, by simp, fun k hk => setRow_other w g k cs (by omega)⟩
theorem setRow_size (w : World) (g : Nat) (cs : Array Value) : (w.setRow g cs).heap.size = w.heap.size := by simp

theorem run_alloc_zero {P : Program} (w : World) (ty : TypeId) (i : TypeInfo) (z : Value) (hi : P.info? ty = some i) (hz : i.zero = some z) : (Instr.alloc ty true (.tuple #[])).run P w = .ok (.pointer (some ⟨w.heap.size, 0, none⟩)) (w.alloc (.cells z.cells ty)) := by
  simp [Instr.alloc, typeInfo, hi, zeroValue, hz, newVar, newRow, go_sem]

section
variable {P : Program} {ops : Array Oper} {rest : List Oper} {o : Oper} {a : Act} {w : World} {Q : Exit → Act → World → Prop}
/-- A literal, under a name. -/
theorem wpList_build_as (cells : Array Value) (hg : o.guard = none) (t : TypeId) (parts : Array (Nat × Operand)) (ho : o.op = .build t parts)
    (hf : P.built t (parts.map fun (i, x) => (i, a.eval x)).toList = some cells)
    (h : wpList P ops Q rest (a.put o.dst (.agg cells)) w) : wpList P ops Q (o :: rest) a w :=
  wpList_build hg t parts ho (by rw [hf]; rfl) (by rw [hf]; exact h)
/-- A new variable of an array type, zeros in it. -/
theorem wpList_alloc_zero (hg : o.guard = none) (ty : TypeId) (ho : o.op = .alloc ty) (zs : Array Value) (hz : ((P.info? ty).bind fun i => i.zero.map fun z => z.cells) = some zs)
    (h : ∀ w', At w' w.heap.size ty zs → Below w.heap.size w w' → w'.heap.size = w.heap.size + 1 → wpList P ops Q rest (a.put o.dst (.pointer (some ⟨w.heap.size, 0, none⟩))) w') : wpList P ops Q (o :: rest) a w := by
  refine wpList_plain hg fun K hK => ?_
  cases hi : P.info? ty with
  | none => simp [hi] at hz
  | some i =>
    cases hzz : i.zero with
    | none => simp [hi, hzz] at hz
    | some z =>
      simp only [hi, hzz, Option.bind_some, Option.map_some, Option.some.injEq] at hz
      subst hz
      have hrun := run_alloc_zero (P := P) w ty i z hi hzz
      unfold Oper.wp
      simp only [execOp, ho, Sem.run_bind, hrun, Result.andThen_ok]
      exact hK _ _ (h _ (heap_alloc_new w _) ((Below.refl _ _).alloc (Nat.le_refl _) _) (by simp))
/-- A whole array stored. -/
theorem wpList_store_all (hgd : o.guard = none) (ty : TypeId) (x y : Operand) (ho : o.op = .store ty x y)
    (g : Nat) (cells : Array Value) (hx : a.eval x = .pointer (some ⟨g, 0, none⟩)) (hy : a.eval y = .agg cells)
    (t : TypeId) (old : Array Value) (hg : At w g t old) (hi : (P.info? ty).map (·.size) = some cells.size)
    (hold : old.size = cells.size) (h1 : cells.all (·.oneCell') = true)
    (h : ∀ w', At w' g t cells → (∀ B, B ≤ g → Below B w w') → w'.heap.size = w.heap.size → (∀ k, k ≠ g → w'.heap[k]? = w.heap[k]?) → wpList P ops Q rest (a.put o.dst undef) w') : wpList P ops Q (o :: rest) a w :=
  wpList_store_row hgd ty x y ho g cells hx hy t old hg hi hold h1 (h _ (hg.setRow cells) (fun B hB => below_setRow (Below.refl B w) hB cells) (setRow_size _ _ _) (fun k hk => setRow_other w g k cells hk))
end

end Go.Proofs.YtigklnokgmcifaaDoor


/-
  The four helpers of the laws over slices of bytes: a copy, a comparison, a marking, a look at the marks.
-/
namespace Go.Proofs.YtigklnokgmcifaaDoor
open Go.RowKit

theorem set_take_replicate (l : List Int) (k : Nat) (h : k < l.length) :
    (bs (l.take k) ++ List.replicate (l.length - k) (Value.int .u8 0)).set k (.int .u8 (l.getD k 0)) = bs (l.take (k + 1)) ++ List.replicate (l.length - (k + 1)) (Value.int .u8 0) := by
  have e : l.length - k = (l.length - (k + 1)) + 1 := by omega
  rw [e, List.replicate_succ, List.set_append]
  have hk : (bs (l.take k)).length = k := by rw [bs_length, List.length_take]; omega
  rw [hk, if_neg (by omega), Nat.sub_self, List.set_cons_zero, List.take_succ_eq_append_getElem h, bs_append, List.append_assoc]
  simp [bs, List.getD, List.getElem?_eq_getElem h]

set_option maxHeartbeats 400000 in
theorem toBytes (l : List Int) (v : Value) (w : World) (hv : Rd w v (bs l)) (hl : l.length ≤ 1099511627776) :
    Calls Tryd.prog 33 #[v] w fun e w' => ∃ v', e = .returned v' ∧ Own 5 w.heap.size w'.heap.size w' v' (bs l) ∧ Below w.heap.size w w' := by
  obtain ⟨i0, hi0, hz0, hz1, hz2⟩ := info_parts u8info
  obtain ⟨A, c, rfl, hc1, hc2, hrd⟩ := hv
  rw [bs_length] at *
  unfold maxLen at hc2
  go_enter Tryd.func33, Tryd.ntmps33
  go_wp2_with (at_make; refine wpList_make_full _ rfl _ _ 22 rfl w.heap.size 5 i0 _ 1 Tryd.underlying22 hi0 hz0 hz1 .i64 .i64 _ _ l.length rfl rfl rfl rfl (by rw [hz2]; omega) (by simp only [maxLen]; omega) (Nat.le_refl _) ?_; intro w1 own1 gr1)
  have own2 : w1.ownsRow w.heap.size 5 1 (.slice (some ⟨w.heap.size, 0, none⟩) l.length l.length) l.length (bs (l.take 0) ++ List.replicate (l.length - 0) (Value.int .u8 0)) := by
    have e : (madeCells (Value.int .u8 0).cells (l.length * 1)).toList = bs (l.take 0) ++ List.replicate (l.length - 0) (Value.int .u8 0) := by
      rw [Nat.mul_one]; exact toList_madeCells_one _ _
    rw [← e]
    exact own1
  have hb1 : Below w.heap.size w w1 := (Below.refl _ _).grown gr1 (Nat.le_refl _) (fun _ h => by cases h)
  clear own1 gr1 hi0 hz0 hz1 hz2
  go_loopw [4] (fun i wr => ∃ k : Nat, k ≤ l.length ∧ i = .int .i64 k ∧ wr.ownsRow w.heap.size 5 1 (.slice (some ⟨w.heap.size, 0, none⟩) l.length l.length) l.length (bs (l.take k) ++ List.replicate (l.length - k) (Value.int .u8 0)) ∧ Below w.heap.size w wr)
    (fun i _ => l.length - (intOf i).toNat)
  case atStart => exact ⟨0, Nat.zero_le _, rfl, own2, hb1⟩
  case round =>
    obtain ⟨k, hk, rfl, hown, hbel⟩ := hrel
    by_cases hlt : k < l.length
    · obtain ⟨b, off, rfl, hblt, hcell⟩ := hrd (by omega)
      have hin : wr.cell? ⟨b, off + k, none⟩ = some (.int .u8 (l.getD k 0)) := (hbel.cell (p := ⟨b, off + k, none⟩) hblt).trans (hcell k _ (bs_get hlt))
      have hout := hown.cellAt k (by omega)
      have hfz := hown.frozenAt k
      obtain ⟨hst, hgr⟩ := hown.stored k (.int .u8 (l.getD k 0))
      rw [set_take_replicate l k hlt] at hst
      have hbel2 : Below w.heap.size w (wr.setCell ⟨w.heap.size, k, none⟩ (.int .u8 (l.getD k 0))) := hbel.setCell (Nat.le_refl _) _
      have hget : (bs (l.take k) ++ List.replicate (l.length - k) (Value.int .u8 0))[k]? = some (.int .u8 0) := by
        rw [List.getElem?_append_right (by rw [bs_length, List.length_take]; omega), bs_length, List.length_take, List.getElem?_replicate, if_pos (by omega)]
      rw [hget] at hout
      generalize hx : l.getD k 0 = x at *
      have HX := hide hx
      clear hx
      have HS := hide hst
      have HB := hide hbel2
      clear hst hbel2 hgr hget hown hcell hrd
      go_wp2
      go_roundw
      case rel => exact ⟨k + 1, by omega, by go_num, HS.out, HB.out⟩
      case measure => simp [intOf]; omega
    · obtain rfl : k = l.length := by omega
      go_wp2
      go_ret
      rw [Nat.sub_self, List.take_length, List.replicate_zero, List.append_nil] at hown
      exact ⟨_, rfl, Own.of hown (bs_length l).symm, hbel⟩

set_option maxHeartbeats 400000 in
/-- Two slices that read as the same bytes are equal. -/
theorem eqBytes (l : List Int) (v1 v2 : Value) (w : World) (h1 : Rd w v1 (bs l)) (h2 : Rd w v2 (bs l)) :
    Calls Tryd.prog 15 #[v1, v2] w fun e w' => e = .returned (.bool true) ∧ Below w.heap.size w w' := by
  obtain ⟨A, c, rfl, hc1, hc2, hrd⟩ := h1
  obtain ⟨A', c', rfl, hc1', hc2', hrd'⟩ := h2
  rw [bs_length] at *
  unfold maxLen at hc2 hc2'
  have hlen : ((l.length : Int) != (l.length : Int)) = false := by simp
  go_enter Tryd.func15, Tryd.ntmps15
  go_wp2
  go_loopw [5] (fun i wr => ∃ k : Nat, k ≤ l.length ∧ i = .int .i64 k ∧ Below w.heap.size w wr)
    (fun i _ => l.length - (intOf i).toNat)
  case atStart => exact ⟨0, Nat.zero_le _, rfl, Below.refl _ _⟩
  case round =>
    obtain ⟨k, hk, rfl, hbel⟩ := hrel
    by_cases hlt : k < l.length
    · obtain ⟨b, off, rfl, hblt, hcell⟩ := hrd (by omega)
      obtain ⟨b', off', rfl, hblt', hcell'⟩ := hrd' (by omega)
      have hin : wr.cell? ⟨b, off + k, none⟩ = some (.int .u8 (l.getD k 0)) := (hbel.cell (p := ⟨b, off + k, none⟩) hblt).trans (hcell k _ (bs_get hlt))
      have hin' : wr.cell? ⟨b', off' + k, none⟩ = some (.int .u8 (l.getD k 0)) := (hbel.cell (p := ⟨b', off' + k, none⟩) hblt').trans (hcell' k _ (bs_get hlt))
      generalize hx : l.getD k 0 = x at *
      have HX := hide hx
      have HB := hide hbel
      clear hx hbel hcell hcell' hrd hrd'
      have hne : ((x : Int) != x) = false := by simp
      go_wp2
      go_quiet (fail)
      go_wp2
      go_roundw
      case rel => exact ⟨k + 1, by omega, by go_num, below_drewN HB.out _⟩
      case measure => simp [intOf]; omega
    · obtain rfl : k = l.length := by omega
      go_wp2
      go_ret
      exact ⟨rfl, hbel⟩

/-- The marks s, s+1, .. as bytes. -/
def mks (s : Int) (n : Nat) : List Int := (List.range n).map fun i : Nat => (s + (i : Int)) % 256
theorem mks_length (s : Int) (n : Nat) : (mks s n).length = n := by simp [mks]
theorem mks_getD {s : Int} {n i : Nat} (h : i < n) : (mks s n).getD i 0 = (s + (i : Int)) % 256 := by
  simp [mks, List.getD, h]

theorem set_marks (s : Int) (l : List Int) (k : Nat) (h : k < l.length) :
    (bs ((mks s l.length).take k) ++ (bs l).drop k).set k (.int .u8 ((s + (k : Int)) % 256)) = bs ((mks s l.length).take (k + 1)) ++ (bs l).drop (k + 1) := by
  have hk : (bs ((mks s l.length).take k)).length = k := by rw [bs_length, List.length_take, mks_length]; omega
  have hm : k < (mks s l.length).length := by rw [mks_length]; exact h
  rw [List.set_append, hk, if_neg (by omega), Nat.sub_self, List.drop_eq_getElem_cons (by rw [bs_length]; exact h), List.set_cons_zero, List.take_succ_eq_append_getElem hm, bs_append, List.append_assoc]
  have e : (mks s l.length)[k] = (s + (k : Int)) % 256 := by simp [mks]
  rw [e]
  simp [bs]

set_option maxHeartbeats 400000 in
/-- Marking writes s, s+1, .. over the elements, and nowhere else. -/
theorem markBytes (l : List Int) (v : Value) (s : Int) (lo hi : Nat) (w : World) (h : Own 5 lo hi w v (bs l)) (hl : l.length ≤ 1099511627776) (hs : 0 ≤ s ∧ s ≤ 1099511627776) :
    Calls Tryd.prog 18 #[v, .int .i64 s] w fun e w' => e = .returned (.int .i64 (s + l.length)) ∧ Own 5 lo hi w' v (bs (mks s l.length)) ∧ Outside lo hi w w' := by
  obtain ⟨A, c, hv, hc1, hc2, hrd⟩ := h.rd
  subst hv
  obtain ⟨h1, h2, h3⟩ := h
  obtain ⟨hs0, hs1⟩ := hs
  rw [bs_length] at *
  unfold maxLen at hc2
  go_enter Tryd.func18, Tryd.ntmps18
  go_wp2
  go_loopw [1, 5] (fun q i wr => ∃ k : Nat, k ≤ l.length ∧ i = .int .i64 k ∧ q = .int .i64 (s + k) ∧ wr.ownsRow lo 5 1 (.slice A l.length c) l.length (bs ((mks s l.length).take k) ++ (bs l).drop k) ∧ w.grownBy wr (Value.slice A l.length c).ownBlock)
    (fun _ i _ => l.length - (intOf i).toNat)
  case atStart => exact ⟨0, Nat.zero_le _, rfl, by go_num, h1, World.grownBy.refl _ _⟩
  case round =>
    obtain ⟨k, hk, rfl, rfl, hown, hgr⟩ := hrel
    by_cases hlt : k < l.length
    · obtain ⟨g, rfl, _, _⟩ := own_form hown (by omega)
      have hout := hown.cellAt k (by omega)
      have hfz := hown.frozenAt k
      obtain ⟨hst, hg2⟩ := hown.stored k (.int .u8 ((s + (k : Int)) % 256))
      rw [set_marks s l k hlt] at hst
      have hget : (bs ((mks s l.length).take k) ++ (bs l).drop k)[k]? = some (.int .u8 (l.getD k 0)) := by
        rw [List.getElem?_append_right (by rw [bs_length, List.length_take, mks_length]; omega), bs_length, List.length_take, mks_length, List.getElem?_drop, ← bs_get hlt]
        congr 1
        omega
      rw [hget] at hout
      generalize hx : l.getD k 0 = x at *
      clear hx hget hown
      have HS := hide hst
      have HG := hide hgr
      have HG2 := hide hg2
      clear hst hg2 hgr h1 h3 hrd
      go_wp2
      go_roundw
      case rel => exact ⟨k + 1, by omega, by go_num, by go_num, HS.out, grown_more HG.out HG2.out⟩
      case measure => simp [intOf]; omega
    · obtain rfl : k = l.length := by omega
      go_wp2
      go_ret
      rw [List.take_of_length_le (by rw [mks_length]; omega), List.drop_eq_nil_of_le (by rw [bs_length]; omega), List.append_nil] at hown
      refine ⟨rfl, ⟨by rw [bs_length, mks_length]; exact hown, Nat.le_trans h2 hgr.size, h3⟩, Outside.grown hgr fun g hg => ⟨(h1.lt g hg).1, h3 g hg⟩⟩

set_option maxHeartbeats 400000 in
/-- The marks are found again. -/
theorem heldBytes (s : Int) (n : Nat) (v : Value) (w : World) (h : Rd w v (bs (mks s n))) (hl : n ≤ 1099511627776) (hs : 0 ≤ s ∧ s ≤ 1099511627776) :
    Calls Tryd.prog 19 #[v, .int .i64 s] w fun e w' => e = .returned (.int .i64 (s + n)) ∧ Below w.heap.size w w' := by
  obtain ⟨A, c, rfl, hc1, hc2, hrd⟩ := h
  obtain ⟨hs0, hs1⟩ := hs
  rw [bs_length, mks_length] at *
  unfold maxLen at hc2
  go_enter Tryd.func19, Tryd.ntmps19
  go_wp2
  go_loopw [1, 5] (fun q i wr => ∃ k : Nat, k ≤ n ∧ i = .int .i64 k ∧ q = .int .i64 (s + k) ∧ Below w.heap.size w wr)
    (fun _ i _ => n - (intOf i).toNat)
  case atStart => exact ⟨0, Nat.zero_le _, rfl, by go_num, Below.refl _ _⟩
  case round =>
    obtain ⟨k, hk, rfl, rfl, hbel⟩ := hrel
    by_cases hlt : k < n
    · obtain ⟨b, off, rfl, hblt, hcell⟩ := hrd (by omega)
      have hin : wr.cell? ⟨b, off + k, none⟩ = some (.int .u8 ((s + (k : Int)) % 256)) := by
        rw [← mks_getD hlt]
        exact (hbel.cell (p := ⟨b, off + k, none⟩) hblt).trans (hcell k _ (bs_get (by rw [mks_length]; exact hlt)))
      have hne : (((s + (k : Int)) % 256 : Int) != (s + (k : Int)) % 256) = false := by simp
      have HB := hide hbel
      clear hbel hcell hrd
      go_wp2
      go_roundw
      case rel => exact ⟨k + 1, by omega, by go_num, by go_num, HB.out⟩
      case measure => simp [intOf]; omega
    · obtain rfl : k = n := by omega
      go_wp2
      go_ret
      exact ⟨rfl, hbel⟩

end Go.Proofs.YtigklnokgmcifaaDoor


/-
  bytes.Clone.
-/
namespace Go.Proofs.YtigklnokgmcifaaDoor
open Go.RowKit

set_option maxHeartbeats 400000 in
theorem clone (l : List Int) (v : Value) (w : World) (hv : Rd w v (bs l)) (hl : l.length ≤ 1099511627776) :
    Calls Tryd.prog 103 #[v] w fun e w' => ∃ v', e = .returned v' ∧ w'.ownsRow w.heap.size 5 1 v' l.length (bs l) ∧ Below w.heap.size w w' := by
  obtain ⟨i0, hi0, hz0, hz1, hz2⟩ := info_parts u8info
  obtain ⟨A, c, hV, _, _, hrd⟩ := id hv
  rw [bs_length] at *
  subst hV
  have HV := hide hv
  clear hv
  cases A with
  | none =>
    have h0 : l = [] := by
      rcases Nat.eq_zero_or_pos l.length with h | h
      · exact List.eq_nil_of_length_eq_zero h
      · obtain ⟨b, off, hA, _⟩ := hrd h
        cases hA
    subst h0
    have hq := fun (W : World) => Lib.run_eql_slice_nil (P := Tryd.prog) W 22 5 none 0 c 0 0 Tryd.underlying22
    go_enter Tryd.func103, Tryd.ntmps103
    go_wp2
    all_goals go_ret
    all_goals exact ⟨_, rfl, World.ownsRow_nil _ _ _ _, Below.refl _ _⟩
  | some ad =>
    clear hrd
    have hq := fun (W : World) => Lib.run_eql_slice_nil (P := Tryd.prog) W 22 5 (some ad) l.length c 0 0 Tryd.underlying22
    go_enter Tryd.func103, Tryd.ntmps103
    go_wp2_with (at_builtin; refine wpList_app _ rfl (.tmp 5) (.tmp 6) _ rfl w.heap.size 5 i0 _ 1 Tryd.underlying22 hi0 hz0 hz1 hz2 rfl _ 0 [] rfl (own_lit0 w _) _ (bs l) rfl (HV.out.alloc _) (bs_one l) (by rw [bs_length]; simp only [maxLen]; omega) (by rw [bs_length]; omega) (by simp) ?_; intro v1 w1 own1 gr1)
    go_ret
    exact ⟨_, rfl, own_len (own_cells own1 (List.nil_append _)) (by rw [bs_length]; omega), below_app0 gr1⟩

end Go.Proofs.YtigklnokgmcifaaDoor
