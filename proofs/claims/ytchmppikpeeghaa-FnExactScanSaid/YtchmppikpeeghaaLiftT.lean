/-
  From a tree's datum that comes in to a tree of Lean.
-/
import Derived.Test.YtchmppikpeeghaaLift
import Derived.Test.YtchmppikpeeghaaTree
import Derived.Deep.Slices
import Derived.Deep.Fields
import Derived.ChangeSame
import Derived.Lib.SmallJoins
namespace Go.Proofs.Ytchmppikpeeghaa
open Go.ChangeShapes Go.WideShapes Go.ChangeAt Go.RowKit
set_option linter.unusedVariables false

theorem list_of {α : Type} {R : Nat → α → Prop} : ∀ (n : Nat), (∀ i, i < n → ∃ x, R i x) → ∃ l : List α, l.length = n ∧ ∀ i x, l[i]? = some x → R i x
  | 0, _ => ⟨[], rfl, fun i x h => by simp at h⟩
  | n + 1, h => by
    obtain ⟨l, hl, hr⟩ := list_of n (fun i hi => h i (by omega))
    obtain ⟨x, hx⟩ := h n (by omega)
    refine ⟨l ++ [x], by simp [hl], fun i y hy => ?_⟩
    by_cases hi : i < n
    · rw [List.getElem?_append_left (by omega)] at hy
      exact hr i y hy
    · rw [List.getElem?_append_right (by omega)] at hy
      have : i - l.length = 0 := by
        have := (List.getElem?_eq_some_iff.1 hy).1
        simp at this
        omega
      rw [this] at hy
      simp at hy
      subst hy
      obtain rfl : i = n := by omega
      exact hx
theorem spot_of {W : World} {a : Addr} {v : Value} (h : W.cell? (a.add 0) = some v) : ∃ b off, a = ⟨b, off, none⟩ ∧ b < W.heap.size := by
  obtain ⟨b, off, spot⟩ := a
  have hs : spot = none := by simpa [Addr.add] using World.cell?_spot h
  subst hs
  have := World.block_lt_of_cell? W _ h
  exact ⟨b, off, rfl, by simpa [Addr.add] using this⟩
theorem rd_cells {W : World} {a : Addr} {len c : Nat} {vs : List Value} (hl : len ≤ c) (hm : c ≤ maxLen) (hv : vs.length = len) (hc : ∀ i u, vs[i]? = some u → W.cell? (a.add i) = some u) : Rd W (.slice (some a) len c) vs := by
  refine ⟨some a, c, by rw [hv], by omega, hm, fun hp => ?_⟩
  obtain ⟨b, off, rfl, hb⟩ := spot_of (hc 0 vs[0] (List.getElem?_eq_getElem hp))
  refine ⟨b, off, rfl, hb, fun i u hu => ?_⟩
  have h1 := hc i u hu
  rwa [Addr.add_lit] at h1
theorem rd_cells0 (W : World) : Rd W (.slice none 0 0) [] := ⟨none, 0, rfl, Nat.le_refl _, Nat.zero_le _, fun h => absurd h (by simp)⟩
theorem rd4_cells {W : World} {a : Addr} {len c : Nat} {qs : List Q} (hl : len ≤ c) (hm : c ≤ maxLen) (hv : qs.length = len)
    (hc : ∀ i q, qs[i]? = some q → W.cell? (a.add (i * 4 + 0)) = some (.int .i64 q.k) ∧ W.cell? (a.add (i * 4 + 1)) = some q.d ∧ W.cell? (a.add (i * 4 + 2)) = some q.n ∧ W.cell? (a.add (i * 4 + 3)) = some q.c) : Rd4 W (.slice (some a) len c) qs := by
  refine ⟨some a, c, by rw [hv], by omega, hm, fun hp => ?_⟩
  obtain ⟨b, off, rfl, hb⟩ := spot_of (by simpa using (hc 0 qs[0] (List.getElem?_eq_getElem hp)).1)
  refine ⟨b, off, rfl, hb, fun i q hq => ?_⟩
  have h1 := hc i q hq
  simp only [Addr.add_lit, Nat.add_zero, Nat.mul_comm i 4] at h1
  exact h1

section
variable {H : Type} {enc : TypeId × Value → H} {W : World}
theorem bytes_of_trod {fuel : Nat} {v : Value} {x : DataW H × List MemPlace} (h : DataW.trod enc Try.prog W 0 (fun _ => true) true fuel 22 [v] = some x) : ∃ l, Byt l ∧ Rd W v (bs l) := by
  rcases open_ints Try.underlying22 Try.underlying5 (by kernel_rfl) h with ⟨hcs, _⟩ | ⟨a, l, c, zs, hcs, _, hl, hm, hz, _, hcell, hwz⟩
  · obtain rfl := List.singleton_inj.1 hcs
    exact ⟨[], Byt.nil, rd_nil W⟩
  · obtain rfl := List.singleton_inj.1 hcs
    exact rd_of_row hl hm (by simpa using hz) hcell hwz
theorem names_of_trod {fuel : Nat} {v : Value} {x : DataW H × List MemPlace} (h : DataW.trod enc Try.prog W 0 (fun _ => true) true fuel 23 [v] = some x) : ∃ ns, BytN ns ∧ RdN W v ns := by
  rcases DataW.trod_slice Try.underlying23 h with ⟨hcs, _⟩ | ⟨a, len, cap, elems, rest, n, _, hcs, _, _, hl, hm, hlen, hel, _, _⟩
  · obtain rfl := List.singleton_inj.1 hcs
    exact ⟨[], (fun n hn => by cases hn), [], (rd_cells0 W), rfl, fun i u hu => by simp at hu⟩
  · obtain rfl := List.singleton_inj.1 hcs
    have hC : Program.cellsOf Try.prog 22 = 1 := by kernel_rfl
    rw [hC] at hel
    obtain ⟨l, hll, hlr⟩ := list_of (R := fun i (y : Value × List Int) => W.cell? (a.add i) = some y.1 ∧ Byt y.2 ∧ Rd W y.1 (bs y.2)) len (fun i hi => by
      have h1 := hel i hi
      rw [List.getElem?_eq_getElem (by omega)] at h1
      obtain ⟨cs', h2, h3⟩ := Option.bind_eq_some_iff.1 h1
      obtain ⟨_, hcl, hat⟩ := World.cells?_some h2
      match cs', hcl with
      | [u], _ =>
        obtain ⟨l, hB, hr⟩ := bytes_of_trod h3
        have h4 := hat 0 (by omega)
        rw [Nat.mul_one] at h4
        exact ⟨(u, l), by simpa [Addr.add] using h4, hB, hr⟩)
    refine ⟨l.map (·.2), fun n hn => ?_, l.map (·.1), rd_cells hl hm (by simp [hll]) (fun i u hu => ?_), by simp, fun i u hu => ?_⟩
    · obtain ⟨y, hy, rfl⟩ := List.mem_map.1 hn
      obtain ⟨i, hi⟩ := List.getElem?_of_mem hy
      exact (hlr i y hi).2.1
    · rw [List.getElem?_map] at hu
      obtain ⟨y, hy, rfl⟩ := Option.map_eq_some_iff.1 hu
      exact (hlr i y hy).1
    · rw [List.getElem?_map] at hu
      obtain ⟨y, hy, rfl⟩ := Option.map_eq_some_iff.1 hu
      have : (l.map (·.2)).getD i [] = y.2 := by simp [List.getD, hy]
      rw [this]
      exact (hlr i y hy).2.2

set_option maxRecDepth 100000 in
theorem tree_of_trod (fuel : Nat) : ∀ (cs : List Value) (x : DataW H × List MemPlace), DataW.trod enc Try.prog W 0 (fun _ => true) true fuel 26 cs = some x → ∃ (q : Q) (t : T), cs = [.int .i64 q.k, q.d, q.n, q.c] ∧ t.Byts ∧ TIn W t q := by
  induction fuel using Nat.strongRecOn with
  | ind fuel ih =>
    intro cs x h
    obtain ⟨xs, n, hfu, hx, hlen, hxl, hf⟩ := DataW.trod_struct Try.underlying26 h
    have hC : Program.cellsOf Try.prog 26 = 4 := by kernel_rfl
    have C0 : Program.cellsOf Try.prog 3 = 1 := by kernel_rfl
    have C1 : Program.cellsOf Try.prog 22 = 1 := by kernel_rfl
    have C2 : Program.cellsOf Try.prog 23 = 1 := by kernel_rfl
    have C3 : Program.cellsOf Try.prog 24 = 1 := by kernel_rfl
    rw [hC] at hlen
    match cs, hlen, xs, hxl with
    | [c0, c1, c2, c3], _, [y0, y1, y2, y3], _ =>
      have f0 : DataW.trod enc Try.prog W 0 (fun _ => true) true n 3 (([c0, c1, c2, c3].drop 0).take (Program.cellsOf Try.prog 3)) = some y0 := hf 0 _ rfl
      rw [C0] at f0
      replace f0 : DataW.trod enc Try.prog W 0 (fun _ => true) true n 3 [c0] = some y0 := f0
      have f1 : DataW.trod enc Try.prog W 0 (fun _ => true) true n 22 (([c0, c1, c2, c3].drop 1).take (Program.cellsOf Try.prog 22)) = some y1 := hf 1 _ rfl
      rw [C1] at f1
      replace f1 : DataW.trod enc Try.prog W 0 (fun _ => true) true n 22 [c1] = some y1 := f1
      have f2 : DataW.trod enc Try.prog W 0 (fun _ => true) true n 23 (([c0, c1, c2, c3].drop 2).take (Program.cellsOf Try.prog 23)) = some y2 := hf 2 _ rfl
      rw [C2] at f2
      replace f2 : DataW.trod enc Try.prog W 0 (fun _ => true) true n 23 [c2] = some y2 := f2
      have f3 : DataW.trod enc Try.prog W 0 (fun _ => true) true n 24 (([c0, c1, c2, c3].drop 3).take (Program.cellsOf Try.prog 24)) = some y3 := hf 3 _ rfl
      rw [C3] at f3
      replace f3 : DataW.trod enc Try.prog W 0 (fun _ => true) true n 24 [c3] = some y3 := f3
      obtain ⟨k, hk, _, _⟩ := DataW.trod_int Try.underlying3 f0
      obtain rfl := List.singleton_inj.1 hk
      obtain ⟨d, hd, rd⟩ := bytes_of_trod f1
      obtain ⟨ns, hn, rn⟩ := names_of_trod f2
      obtain ⟨ks, qs, hB, h4, hT⟩ : ∃ (ks : List T) (qs : List Q), T.Bytss ks ∧ Rd4 W c3 qs ∧ TIns W ks qs := by
        rcases DataW.trod_slice Try.underlying24 f3 with ⟨hcs, _⟩ | ⟨a, len, cap, elems, rest, m, hfm, hcs, _, _, hl, hm, hlen, hel, _, _⟩
        · obtain rfl := List.singleton_inj.1 hcs
          refine ⟨[], [], by rw [T.Bytss]; trivial, ⟨none, 0, rfl, Nat.le_refl _, Nat.zero_le _, fun h => absurd h (by simp)⟩, by rw [TIns]⟩
        · obtain rfl := List.singleton_inj.1 hcs
          rw [hC] at hel
          obtain ⟨l, hll, hlr⟩ := list_of (R := fun i (y : Q × T) => (W.cell? (a.add (i * 4 + 0)) = some (.int .i64 y.1.k) ∧ W.cell? (a.add (i * 4 + 1)) = some y.1.d ∧ W.cell? (a.add (i * 4 + 2)) = some y.1.n ∧ W.cell? (a.add (i * 4 + 3)) = some y.1.c) ∧ y.2.Byts ∧ TIn W y.2 y.1) len (fun i hi => by
            have h1 := hel i hi
            rw [List.getElem?_eq_getElem (by omega)] at h1
            obtain ⟨cs', h2, h3⟩ := Option.bind_eq_some_iff.1 h1
            obtain ⟨_, hcl, hat⟩ := World.cells?_some h2
            obtain ⟨q, t, rfl, hB, hT⟩ := ih m (by omega) _ _ h3
            have a0 := hat 0 (by omega)
            have a1 := hat 1 (by omega)
            have a2 := hat 2 (by omega)
            have a3 := hat 3 (by omega)
            rw [Go.Deep.add_add] at a0 a1 a2 a3
            exact ⟨(q, t), ⟨a0, a1, a2, a3⟩, hB, hT⟩)
          refine ⟨l.map (·.2), l.map (·.1), ?_, rd4_cells hl hm (by simp [hll]) (fun i q hq => ?_), TIns.mk (by simp) (fun i t q h1 h2 => ?_)⟩
          · have key : ∀ l : List (Q × T), (∀ y ∈ l, y.2.Byts) → T.Bytss (l.map (·.2)) := by
              intro l
              induction l with
              | nil => intro _; rw [List.map_nil, T.Bytss]; trivial
              | cons y l ih => intro h; rw [List.map_cons, T.Bytss]; exact ⟨h y (List.mem_cons_self ..), ih fun z hz => h z (List.mem_cons_of_mem _ hz)⟩
            exact key l fun y hy => by
              obtain ⟨i, hi⟩ := List.getElem?_of_mem hy
              exact (hlr i y hi).2.1
          · rw [List.getElem?_map] at hq
            obtain ⟨y, hy, rfl⟩ := Option.map_eq_some_iff.1 hq
            exact (hlr i y hy).1
          · rw [List.getElem?_map] at h1 h2
            obtain ⟨y, hy, rfl⟩ := Option.map_eq_some_iff.1 h1
            rw [hy] at h2
            obtain rfl := Option.some.inj h2
            exact (hlr i y hy).2.2
      refine ⟨⟨k, c1, c2, c3⟩, .node k d ns ks, rfl, by rw [T.Byts]; exact ⟨hd, hn, hB⟩, ?_⟩
      rw [TIn]
      exact ⟨rfl, rd, rn, qs, h4, hT⟩
end

end Go.Proofs.Ytchmppikpeeghaa
