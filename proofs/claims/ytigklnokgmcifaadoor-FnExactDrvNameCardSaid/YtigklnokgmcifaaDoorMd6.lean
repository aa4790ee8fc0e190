/-
  Parts of the proof: B32, Conv, Dat, Put, Tree.
-/
import Derived.Test.YtigklnokgmcifaaDoorMd4
import Derived.Test.YtigklnokgmcifaaDoorMd2
import Derived.Laws.BytesArg
import Derived.Deep.MidRow
import Derived.StillTailTactics
import Derived.Deep.RegionWith

/-
  Base32: the model's characters.
-/
namespace Go.Proofs.YtigklnokgmcifaaDoor
open Go.RowKit

set_option maxRecDepth 20000 in
set_option maxHeartbeats 1600000 in
theorem specBase (l : List Int) (hB : Byt l) (v : Value) (w : World) (hv : Rd w v (bs l)) (hl : l.length ≤ 1000000) :
    Calls Tryd.prog 78 #[v] w fun e w' => ∃ v', e = .returned v' ∧ Own 5 w.heap.size w'.heap.size w' v' (bs (b32 l)) ∧ Below w.heap.size w w' := by
  obtain ⟨i0, hi0, hz0, hz1, hz2⟩ := info_parts u8info
  obtain ⟨A, c, hV, hc1, hc2, hrd⟩ := id hv
  rw [bs_length] at *
  unfold maxLen at hc2
  subst hV
  clear hv
  go_enter Tryd.func78, Tryd.ntmps78
  go_wp2
  go_loopw [3, 4] (fun v i wr => ∃ (k : Nat) (xs : List Int), k ≤ 8 * l.length + 4 ∧ i = .int .i64 k ∧ wr.ownsRow w.heap.size 5 1 v xs.length (bs xs) ∧ Hid (xs ++ (grp l k).map ltr = b32 l) ∧ Below w.heap.size w wr)
    (fun _ i _ => 8 * l.length + 5 - (intOf i).toNat)
  case atStart => exact ⟨0, [], by omega, rfl, World.ownsRow_nil _ _ _ _, hide (List.nil_append _), Below.refl _ _⟩
  case round =>
    obtain ⟨k, xs, hk, rfl, hown, hx, hbel⟩ := hrel
    have hxl : xs.length ≤ 8 * l.length + 5 := by
      have := congrArg List.length hx.out
      rw [List.length_append, b32_len] at this
      omega
    by_cases hlt : k < 8 * l.length
    · have HO := hide hown
      have HB := hide hbel
      clear hown hbel
      go_wp2
      go_loopw [5, 6] (fun n q ws => ∃ t : Nat, t ≤ 5 ∧ q = .int .i64 (k + t) ∧ n = .int .i64 (part l k t) ∧ ws = wr)
        (fun _ q _ => k + 5 - (intOf q).toNat)
      case atStart => exact ⟨0, by omega, by go_num, rfl, rfl⟩
      case round =>
        obtain ⟨t, ht, rfl, rfl, hws⟩ := hrel
        subst hws
        obtain ⟨p0, p1⟩ := part_range l k t ht
        generalize hp : part l k t = p at *
        have HP := hide hp
        clear hp
        by_cases ht5 : t < 5
        · by_cases hin : k + t < 8 * l.length
          · obtain ⟨b, off, rfl, hblt, hcell⟩ := hrd (by omega)
            have hc := (HB.out.cell (p := ⟨b, off + (k + t) / 8, none⟩) hblt).trans (hcell _ _ (bs_get (by omega)))
            obtain ⟨y0, y1⟩ := hB.at_ ((k + t) / 8)
            have hbit : bitI l (k + t) = l.getD ((k + t) / 8) 0 / 2 ^ (7 - (k + t) % 8) % 2 := rfl
            generalize hy : l.getD ((k + t) / 8) 0 = y at *
            clear hy
            have z0 : 0 ≤ y / 2 ^ (7 - (k + t) % 8) := Int.ediv_nonneg y0 (by exact Int.pow_nonneg (by omega))
            have z1 : y / 2 ^ (7 - (k + t) % 8) ≤ 255 := Int.le_trans (Int.ediv_le_self _ y0) y1
            have hand : bits .and .i64 (y / 2 ^ (7 - (k + t) % 8)) 1 = bitI l (k + t) := by rw [hbit]; exact and_low 1 (by omega) z0 (by omega)
            obtain ⟨i0, i1⟩ := bitI_01 l (k + t)
            have hpart : part l k (t + 1) = 2 * p + bitI l (k + t) := by rw [part, HP.out]
            generalize bitI l (k + t) = bt at *
            have p32 : p < 32 := p_32 ht p1
            have HH := hide hpart
            clear hpart hbit p1 hcell hrd
            go_wp2
            go_roundw
            case rel => exact ⟨t + 1, by omega, by go_num, by rw [HH.out], trivial⟩
            case measure => simp [intOf]; omega
          · have hpart : part l k (t + 1) = 2 * p := by
              rw [part, HP.out]
              have : bitI l (k + t) = 0 := by
                unfold bitI
                rw [List.getD_eq_getElem?_getD, List.getElem?_eq_none (by omega)]
                simp
              omega
            have p32 : p < 32 := p_32 ht p1
            have HH := hide hpart
            clear hpart p1 hrd
            go_wp2
            go_roundw
            case rel => exact ⟨t + 1, by omega, by go_num, by rw [HH.out], trivial⟩
            case measure => simp [intOf]; omega
        · obtain rfl : t = 5 := by omega
          obtain ⟨pn, rfl⟩ := Int.eq_ofNat_of_zero_le p0
          have p32 : pn < 32 := by omega
          have hlt' := ltr_at pn p32
          clear p0 p1 hrd
          go_wp2_with (at_builtin; refine wpList_app _ rfl (.tmp 41) (.tmp 44) _ rfl w.heap.size 5 i0 _ 1 Tryd.underlying22 hi0 hz0 hz1 hz2 rfl _ _ _ rfl (HO.out.alloc _) _ _ rfl (rd_one _ _ _) (bs_one _) (by rw [bs_length]; simp only [maxLen, List.length_singleton]; omega) (by rw [bs_length]; simp only [List.length_singleton]; omega) (by have := HB.out.size; simp; omega) ?_; intro v3 w3 own3 gr3)
          go_roundw
          case rel => exact ⟨k + 5, xs ++ [ltr pn], by omega, by go_num, own_len (own_cells own3 (bs_append _ _).symm) (by simp [bs]), hide (by
              have := hx.out
              rw [grp_more hlt, HP.out] at this
              rw [← this]
              simp), Below.row (HB.out.alloc HB.out.size _) (by have := HB.out.size; simp; omega) (HO.out.alloc _) gr3⟩
          case measure => simp [intOf]; omega
    · have hfin : xs = b32 l := by
        have := hx.out
        rw [grp_end hlt] at this
        simpa using this
      have HF := hide hfin
      have HO := hide hown
      have HB := hide hbel
      clear hfin hown hbel hrd
      go_wp2
      go_ret
      rw [← HF.out]
      exact ⟨_, rfl, Own.of HO.out (by simp [bs]), HB.out⟩
end Go.Proofs.YtigklnokgmcifaaDoor


/-
  Slices of bytes as strings.
-/
namespace Go.Proofs.YtigklnokgmcifaaDoor
open Go.RowKit

/-- A slice of bytes, converted to a string. -/
theorem conv_rd {P : Program} {src dst e : TypeId} (hs : P.underlying src = some (.slice e)) (he : P.underlying e = some (.int .u8)) (hd : P.underlying dst = some .string)
    {w : World} {v : Value} {l : List Int} (h : Rd w v (bs l)) : (convert src dst v).run P w = .ok (.string (strOfNums l)) w := by
  obtain ⟨A, c, rfl, hc, hm, hcell⟩ := h
  rw [bs_length] at *
  cases A with
  | none =>
    have h0 : l = [] := by
      rcases Nat.eq_zero_or_pos l.length with h | h
      · exact List.eq_nil_of_length_eq_zero h
      · obtain ⟨b, off, hA, _⟩ := hcell h
        cases hA
    subst h0
    exact run_convert_bytes_nil w src e hs he _ _ dst hd
  | some ad =>
    have hl : (loadCells ad l.length).run P w = .ok (l.map (Value.int .u8)).toArray w := by
      have := run_loadCells_list (P := P) w ad (l.map (Value.int .u8)) (fun j u hj => by
        have hjl : j < l.length := by
          have := (List.getElem?_eq_some_iff.1 hj).1
          simpa using this
        obtain ⟨b, off, hA, _, hc⟩ := hcell (by omega)
        injection hA with hA
        subst hA
        rw [Addr.add_lit]
        exact hc j u hj)
      simpa using this
    rw [run_convert_bytes_string w src dst e _ _ _ hs he hd, run_bytesToString w ad _ _ l hl, foldl_push_bytes]
    simp [strOfNums, ByteArray.empty, ByteArray.emptyWithCapacity]
    rfl

theorem str_get {l : List Int} (hB : Byt l) {k : Nat} (h : k < (strOfNums l).size) : (((strOfNums l)[k]'h).toNat : Int) = l.getD k 0 := by
  have hk : k < l.length := by rw [strOfNums_size] at h; exact h
  have hy := hB.at_ k
  have e : (strOfNums l)[k]'h = (strOfNums l).data.toList[k]'(by simpa using h) := rfl
  rw [e]
  simp only [strOfNums_data, List.getElem_map]
  have e2 : l.getD k 0 = l[k] := by simp [List.getD, List.getElem?_eq_getElem hk]
  rw [e2] at hy ⊢
  rw [UInt8.toNat_ofNat']
  omega

theorem str_inj {a b : List Int} (ha : Byt a) (hb : Byt b) (h : (strOfNums a).toList = (strOfNums b).toList) : a = b := by
  rw [ByteArray.toList_eq, ByteArray.toList_eq, strOfNums_data, strOfNums_data] at h
  induction a generalizing b with
  | nil =>
    cases b with
    | nil => rfl
    | cons y b => simp at h
  | cons x a ih =>
    cases b with
    | nil => simp at h
    | cons y b =>
      simp only [List.map_cons, List.cons.injEq] at h
      have h1 := congrArg UInt8.toNat h.1
      rw [UInt8.toNat_ofNat', UInt8.toNat_ofNat'] at h1
      have hx := ha x (List.mem_cons_self ..)
      have hy := hb y (List.mem_cons_self ..)
      have e : x = y := by omega
      rw [e, ih (fun z hz => ha z (List.mem_cons_of_mem _ hz)) (fun z hz => hb z (List.mem_cons_of_mem _ hz)) h.2]

end Go.Proofs.YtigklnokgmcifaaDoor


/-
  Data: as they are, and as they lie in memory. A struct is a list of cells; a slice is one cell that says how many cells each element has.
-/
namespace Go.Proofs.YtigklnokgmcifaaDoor
open Go.RowKit
set_option linter.unusedVariables false

inductive Cel where
  | num (k : IntKind) (n : Int)
  | flag (b : Bool)
  | seq (sz n : Nat) (cs : List Cel)

theorem Cel.ind {P : Cel → Prop} (h0 : ∀ k n, P (.num k n)) (h1 : ∀ b, P (.flag b)) (h : ∀ sz n cs, (∀ c ∈ cs, P c) → P (.seq sz n cs)) : ∀ c, P c
  | .num k n => h0 k n
  | .flag b => h1 b
  | .seq sz n cs => h sz n cs fun c hc => Cel.ind h0 h1 h c
termination_by c => SizeOf.sizeOf c
decreasing_by
  have := List.sizeOf_lt_of_mem hc
  simp
  omega

/-- The slice v of n elements of sz cells each reads as the cells us. -/
def Rdc (w : World) (v : Value) (sz n : Nat) (us : List Value) : Prop :=
  ∃ A c, v = .slice A n c ∧ n ≤ c ∧ c ≤ maxLen ∧ us.length = n * sz ∧
    (0 < n → ∃ b off, A = some ⟨b, off, none⟩ ∧ b < w.heap.size ∧ w.rangeAt b off us)

/-- The block of a slice with elements. -/
def blk : Value → List Nat
  | .slice (some a) (_ + 1) _ => [a.block]
  | _ => []
theorem blk_some {a : Addr} {n c : Nat} (h : 0 < n) : blk (.slice (some a) n c) = [a.block] := by
  cases n with
  | zero => omega
  | succ n => rfl
theorem blk_none {A : Option Addr} {c : Nat} : blk (.slice A 0 c) = [] := by cases A <;> rfl

mutual
/-- The datum lies in the cell v; the blocks that it takes, in order, are F. -/
def Lie (w : World) : Cel → Value → List Nat → Prop
  | .num k n, v, F => v = .int k n ∧ F = []
  | .flag b, v, F => v = .bool b ∧ F = []
  | .seq sz n cs, v, F => sz ≤ 64 ∧ ∃ us F2, Rdc w v sz n us ∧ Lies w cs us F2 ∧ F = blk v ++ F2
def Lies (w : World) : List Cel → List Value → List Nat → Prop
  | [], us, F => us = [] ∧ F = []
  | c :: cs, us, F => ∃ u r F1 F2, us = u :: r ∧ F = F1 ++ F2 ∧ Lie w c u F1 ∧ Lies w cs r F2
end

theorem Lies.len {w : World} : ∀ {cs : List Cel} {us : List Value} {F : List Nat}, Lies w cs us F → us.length = cs.length
  | [], us, F, h => by rw [Lies] at h; rw [h.1]; rfl
  | c :: cs, us, F, h => by
    rw [Lies] at h
    obtain ⟨u, r, F1, F2, rfl, _, _, h⟩ := h
    simp [h.len]
theorem lies_nil (w : World) : Lies w [] [] [] := by rw [Lies]; exact ⟨rfl, rfl⟩
theorem lies_cons {w : World} {c : Cel} {cs : List Cel} {u : Value} {us : List Value} {F1 F2 : List Nat} (h : Lie w c u F1) (k : Lies w cs us F2) : Lies w (c :: cs) (u :: us) (F1 ++ F2) := by
  rw [Lies]; exact ⟨u, us, F1, F2, rfl, rfl, h, k⟩
theorem lies_one {w : World} {c : Cel} {u : Value} {F : List Nat} (h : Lie w c u F) : Lies w [c] [u] F := by
  have := lies_cons h (lies_nil w)
  rwa [List.append_nil] at this
theorem lie_num (w : World) (k : IntKind) (n : Int) : Lie w (.num k n) (.int k n) [] := by rw [Lie]; exact ⟨rfl, rfl⟩
theorem lie_flag (w : World) (b : Bool) : Lie w (.flag b) (.bool b) [] := by rw [Lie]; exact ⟨rfl, rfl⟩
theorem Lies.append {w : World} : ∀ {a b : List Cel} {ua ub : List Value} {Fa Fb : List Nat}, Lies w a ua Fa → Lies w b ub Fb → Lies w (a ++ b) (ua ++ ub) (Fa ++ Fb)
  | [], b, ua, ub, Fa, Fb, h, k => by rw [Lies] at h; obtain ⟨rfl, rfl⟩ := h; exact k
  | c :: a, b, ua, ub, Fa, Fb, h, k => by
    rw [Lies] at h
    obtain ⟨u, r, F1, F2, rfl, rfl, h1, h2⟩ := h
    rw [List.append_assoc]
    exact lies_cons h1 (h2.append k)
theorem Lies.parts {w : World} : ∀ {a b : List Cel} {us : List Value} {F : List Nat}, Lies w (a ++ b) us F → ∃ ua ub Fa Fb, us = ua ++ ub ∧ F = Fa ++ Fb ∧ Lies w a ua Fa ∧ Lies w b ub Fb
  | [], b, us, F, h => ⟨[], us, [], F, rfl, rfl, lies_nil w, h⟩
  | c :: a, b, us, F, h => by
    rw [List.cons_append, Lies] at h
    obtain ⟨u, r, F1, F2, rfl, rfl, h1, h2⟩ := h
    obtain ⟨ua, ub, Fa, Fb, rfl, rfl, h3, h4⟩ := h2.parts
    exact ⟨u :: ua, ub, F1 ++ Fa, Fb, rfl, by rw [List.append_assoc], lies_cons h1 h3, h4⟩

theorem Rdc.keep {w w' : World} {v : Value} {sz n : Nat} {us : List Value} (h : Rdc w v sz n us) (hs : w.heap.size ≤ w'.heap.size) (hk : ∀ g ∈ blk v, w'.heap[g]? = w.heap[g]?) : Rdc w' v sz n us := by
  obtain ⟨A, c, rfl, h1, h2, h3, h4⟩ := h
  refine ⟨A, c, rfl, h1, h2, h3, fun hn => ?_⟩
  obtain ⟨b, off, rfl, hb, hr⟩ := h4 hn
  have e := hk b (by rw [blk_some hn]; exact List.mem_singleton.2 rfl)
  exact ⟨b, off, rfl, by omega, fun j u hu => (World.cell?_of_block (w := w) (a := ⟨b, off + j, none⟩) e).trans (hr j u hu)⟩
theorem Rdc.lt {w : World} {v : Value} {sz n : Nat} {us : List Value} (h : Rdc w v sz n us) : ∀ g ∈ blk v, g < w.heap.size := by
  obtain ⟨A, c, rfl, h1, h2, h3, h4⟩ := h
  intro g hg
  rcases Nat.eq_zero_or_pos n with rfl | hn
  · rw [blk_none] at hg; cases hg
  · obtain ⟨b, off, rfl, hb, hr⟩ := h4 hn
    rw [blk_some hn] at hg
    rw [List.mem_singleton.1 hg]
    exact hb

mutual
theorem Lie.lt {w : World} : ∀ {c : Cel} {v : Value} {F : List Nat}, Lie w c v F → ∀ g ∈ F, g < w.heap.size
  | .num k n, v, F, h => by rw [Lie] at h; rw [h.2]; intro g hg; cases hg
  | .flag b, v, F, h => by rw [Lie] at h; rw [h.2]; intro g hg; cases hg
  | .seq sz n cs, v, F, h => by
    rw [Lie] at h
    obtain ⟨_, us, F2, h1, h2, rfl⟩ := h
    intro g hg
    rcases List.mem_append.1 hg with hg | hg
    · exact h1.lt g hg
    · exact h2.lt g hg
theorem Lies.lt {w : World} : ∀ {cs : List Cel} {us : List Value} {F : List Nat}, Lies w cs us F → ∀ g ∈ F, g < w.heap.size
  | [], us, F, h => by rw [Lies] at h; rw [h.2]; intro g hg; cases hg
  | c :: cs, us, F, h => by
    rw [Lies] at h
    obtain ⟨u, r, F1, F2, rfl, rfl, h1, h2⟩ := h
    intro g hg
    rcases List.mem_append.1 hg with hg | hg
    · exact h1.lt g hg
    · exact h2.lt g hg
end
mutual
theorem Lie.keep {w w' : World} (hs : w.heap.size ≤ w'.heap.size) : ∀ {c : Cel} {v : Value} {F : List Nat}, Lie w c v F → (∀ g ∈ F, w'.heap[g]? = w.heap[g]?) → Lie w' c v F
  | .num k n, v, F, h, _ => by rw [Lie] at h ⊢; exact h
  | .flag b, v, F, h, _ => by rw [Lie] at h ⊢; exact h
  | .seq sz n cs, v, F, h, hk => by
    rw [Lie] at h ⊢
    obtain ⟨h0, us, F2, h1, h2, rfl⟩ := h
    exact ⟨h0, us, F2, h1.keep hs fun g hg => hk g (List.mem_append.2 (.inl hg)), h2.keep hs fun g hg => hk g (List.mem_append.2 (.inr hg)), rfl⟩
theorem Lies.keep {w w' : World} (hs : w.heap.size ≤ w'.heap.size) : ∀ {cs : List Cel} {us : List Value} {F : List Nat}, Lies w cs us F → (∀ g ∈ F, w'.heap[g]? = w.heap[g]?) → Lies w' cs us F
  | [], us, F, h, _ => by rw [Lies] at h ⊢; exact h
  | c :: cs, us, F, h, hk => by
    rw [Lies] at h ⊢
    obtain ⟨u, r, F1, F2, rfl, rfl, h1, h2⟩ := h
    exact ⟨u, r, F1, F2, rfl, rfl, h1.keep hs fun g hg => hk g (List.mem_append.2 (.inl hg)), h2.keep hs fun g hg => hk g (List.mem_append.2 (.inr hg))⟩
end
theorem Lie.step {w w' : World} {c : Cel} {v : Value} {F : List Nat} (h : Lie w c v F) (hb : Below w.heap.size w w') : Lie w' c v F := h.keep hb.size fun g hg => hb.block g (h.lt g hg)
theorem Lies.step {w w' : World} {cs : List Cel} {us : List Value} {F : List Nat} (h : Lies w cs us F) (hb : Below w.heap.size w w') : Lies w' cs us F := h.keep hb.size fun g hg => hb.block g (h.lt g hg)

/-! ### Each value is one cell -/
theorem Lie.one {w : World} {c : Cel} {v : Value} {F : List Nat} (h : Lie w c v F) : v.oneCell' = true := by
  cases c with
  | num k n => rw [Lie] at h; rw [h.1]; rfl
  | flag b => rw [Lie] at h; rw [h.1]; rfl
  | seq sz n cs => rw [Lie] at h; obtain ⟨_, us, F2, ⟨A, c, rfl, _⟩, _⟩ := h; rfl
theorem Lies.one {w : World} : ∀ {cs : List Cel} {us : List Value} {F : List Nat}, Lies w cs us F → ∀ u ∈ us, u.oneCell' = true
  | [], us, F, h => by rw [Lies] at h; rw [h.1]; intro u hu; cases hu
  | c :: cs, us, F, h => by
    rw [Lies] at h
    obtain ⟨u, r, F1, F2, rfl, rfl, h1, h2⟩ := h
    intro x hx
    rcases List.mem_cons.1 hx with rfl | hx
    · exact h1.one
    · exact h2.one x hx

/-! ### Rows of numbers -/
abbrev raw (l : List Int) : Cel := .seq 1 l.length (l.map (Cel.num .u8))
abbrev ints (l : List Int) : Cel := .seq 1 l.length (l.map (Cel.num .i64))
theorem lies_nums (w : World) (k : IntKind) : ∀ l : List Int, Lies w (l.map (Cel.num k)) (l.map (Value.int k)) []
  | [] => lies_nil w
  | x :: l => lies_cons (lie_num w k x) (lies_nums w k l)
theorem Lies.nums {w : World} {k : IntKind} : ∀ {l : List Int} {us : List Value} {F : List Nat}, Lies w (l.map (Cel.num k)) us F → us = l.map (Value.int k) ∧ F = []
  | [], us, F, h => by rw [List.map_nil, Lies] at h; exact h
  | x :: l, us, F, h => by
    rw [List.map_cons, Lies] at h
    obtain ⟨u, r, F1, F2, rfl, rfl, h1, h2⟩ := h
    rw [Lie] at h1
    obtain ⟨rfl, rfl⟩ := h1
    obtain ⟨rfl, rfl⟩ := h2.nums
    exact ⟨rfl, rfl⟩
theorem Rd.rdc {w : World} {v : Value} {us : List Value} (h : Rd w v us) {n : Nat} (hn : n = us.length) : Rdc w v 1 n us := by
  subst hn
  obtain ⟨A, c, rfl, h1, h2, h3⟩ := h
  exact ⟨A, c, rfl, h1, h2, by omega, fun hp => by obtain ⟨b, off, e, hb, hc⟩ := h3 hp; exact ⟨b, off, e, hb, hc⟩⟩
theorem Rdc.rd {w : World} {v : Value} {n : Nat} {us : List Value} (h : Rdc w v 1 n us) : Rd w v us := by
  obtain ⟨A, c, rfl, h1, h2, h3, h4⟩ := h
  have e : us.length = n := by omega
  subst e
  exact ⟨A, c, rfl, h1, h2, fun hp => by obtain ⟨b, off, e, hb, hc⟩ := h4 hp; exact ⟨b, off, e, hb, hc⟩⟩
theorem Rd.lie {w : World} {v : Value} {l : List Int} (h : Rd w v (bs l)) : Lie w (raw l) v (blk v) := by
  rw [Lie]
  exact ⟨by decide, bs l, [], h.rdc (bs_length l).symm, lies_nums w .u8 l, by simp⟩
theorem Lie.rd {w : World} {v : Value} {l : List Int} {F : List Nat} (h : Lie w (raw l) v F) : Rd w v (bs l) ∧ F = blk v := by
  rw [Lie] at h
  obtain ⟨_, us, F2, h1, h2, rfl⟩ := h
  obtain ⟨rfl, rfl⟩ := h2.nums
  exact ⟨h1.rd, by simp⟩

/-! ### Lists of typed things -/
def cells {α : Type} (f : α → List Cel) : List α → List Cel
  | [] => []
  | x :: l => f x ++ cells f l
theorem map_cells {α : Type} (f : α → Cel) (l : List α) : l.map f = cells (fun x => [f x]) l := by
  induction l with
  | nil => rfl
  | cons x l ih => simp [cells, ih]
theorem cells_app {α : Type} (f : α → List Cel) (a b : List α) : cells f (a ++ b) = cells f a ++ cells f b := by
  induction a with
  | nil => rfl
  | cons x a ih => simp [cells, ih]
theorem cells_len {α : Type} {f : α → List Cel} {sz : Nat} (hf : ∀ x, (f x).length = sz) (l : List α) : (cells f l).length = l.length * sz := by
  induction l with
  | nil => simp [cells]
  | cons x a ih => simp [cells, ih, hf, Nat.add_mul]; omega
theorem cells_drop {α : Type} (f : α → List Cel) {l : List α} {i : Nat} (h : i < l.length) : cells f (l.drop i) = f l[i] ++ cells f (l.drop (i + 1)) := by
  rw [List.drop_eq_getElem_cons h, cells]
theorem cells_take {α : Type} (f : α → List Cel) {l : List α} {i : Nat} (h : i < l.length) : cells f (l.take (i + 1)) = cells f (l.take i) ++ f l[i] := by
  rw [List.take_succ_eq_append_getElem h, cells_app]
  simp [cells]
theorem cells_split {α : Type} (f : α → List Cel) (l : List α) (i : Nat) : cells f l = cells f (l.take i) ++ cells f (l.drop i) := by
  rw [← cells_app, List.take_append_drop]
abbrev seqOf {α : Type} (sz : Nat) (f : α → List Cel) (l : List α) : Cel := .seq sz l.length (cells f l)
theorem raw_eq (l : List Int) : raw l = seqOf 1 (fun x => [Cel.num .u8 x]) l := by rw [raw, map_cells]
theorem ints_eq (l : List Int) : ints l = seqOf 1 (fun x => [Cel.num .i64 x]) l := by rw [ints, map_cells]
abbrev names (ns : List (List Int)) : Cel := seqOf 1 (fun n => [raw n]) ns

/-! ### What a call leaves alone -/
/-- At most the blocks of F have turned. -/
structure But (F : List Nat) (w w' : World) : Prop where
  os : w'.os = w.os
  tape : w'.tape = w.tape
  output : w'.output = w.output
  size : w.heap.size ≤ w'.heap.size
  block : ∀ k, k < w.heap.size → k ∉ F → w'.heap[k]? = w.heap[k]?
theorem But.refl (F : List Nat) (w : World) : But F w w := ⟨rfl, rfl, rfl, Nat.le_refl _, fun _ _ _ => rfl⟩
theorem But.trans {F : List Nat} {a b c : World} (h : But F a b) (k : But F b c) : But F a c :=
  ⟨k.os.trans h.os, k.tape.trans h.tape, k.output.trans h.output, Nat.le_trans h.size k.size, fun i hi ho => (k.block i (Nat.lt_of_lt_of_le hi h.size) ho).trans (h.block i hi ho)⟩
theorem But.mono {F G : List Nat} {a b : World} (h : But F a b) (hs : ∀ g ∈ F, g ∈ G) : But G a b := ⟨h.os, h.tape, h.output, h.size, fun k hk hg => h.block k hk fun hf => hg (hs k hf)⟩
theorem Below.but {w w' : World} (h : Below w.heap.size w w') (F : List Nat) : But F w w' := ⟨h.os, h.tape, h.output, h.size, fun k hk _ => h.block k hk⟩
theorem But.below {F : List Nat} {B : Nat} {a w w' : World} (h : But F w w') (hb : Below B a w) (hF : ∀ g ∈ F, B ≤ g) (hs : B ≤ w.heap.size) : Below B a w' :=
  hb.trans ⟨h.os, h.tape, h.output, h.size, fun k hk => h.block k (Nat.lt_of_lt_of_le hk hs) fun hg => by have := hF k hg; omega⟩
/-- The blocks may be written. -/
def Live (w : World) (F : List Nat) : Prop := ∀ g ∈ F, ∃ cur e, w.heap[g]? = some (.cells cur e (0, 0))
theorem Live.keep {w w' : World} {F : List Nat} (h : Live w F) (hk : ∀ g ∈ F, w'.heap[g]? = w.heap[g]?) : Live w' F := fun g hg => by
  obtain ⟨cur, e, he⟩ := h g hg
  exact ⟨cur, e, (hk g hg).trans he⟩
theorem Live.lt {w : World} {F : List Nat} (h : Live w F) : ∀ g ∈ F, g < w.heap.size := fun g hg => by
  obtain ⟨cur, e, he⟩ := h g hg
  exact (Array.getElem?_eq_some_iff.1 he).1
theorem Live.step {w w' : World} {F : List Nat} (h : Live w F) (hb : Below w.heap.size w w') : Live w' F := h.keep fun g hg => hb.block g (h.lt g hg)
theorem Live.app {w : World} {F G : List Nat} (h : Live w F) (k : Live w G) : Live w (F ++ G) := fun g hg => (List.mem_append.1 hg).elim (h g) (k g)
theorem Live.set {w : World} {F : List Nat} (h : Live w F) (b j : Nat) (u : Value) : Live (w.setCell ⟨b, j, none⟩ u) F := fun g hg => by
  obtain ⟨cur, e, he⟩ := h g hg
  by_cases hgb : b = g
  · subst hgb
    exact ⟨_, e, heap_setCell_same w b j _ _ _ he⟩
  · exact ⟨cur, e, (Below.heap_setCell w ⟨b, j, none⟩ u g (fun e => hgb e.symm)).trans he⟩
/-- A result's blocks: all different, all new, all may be written. -/
structure Fresh (lo : Nat) (w : World) (F : List Nat) : Prop where
  nodup : F.Nodup
  low : ∀ g ∈ F, lo ≤ g
  live : Live w F
theorem Fresh.nil (lo : Nat) (w : World) : Fresh lo w [] := ⟨List.nodup_nil, (fun _ h => by cases h), fun _ h => by cases h⟩
theorem Fresh.step {lo : Nat} {w w' : World} {F : List Nat} (h : Fresh lo w F) (hb : Below w.heap.size w w') : Fresh lo w' F := ⟨h.nodup, h.low, h.live.step hb⟩
theorem Fresh.base {lo lo' : Nat} {w : World} {F : List Nat} (h : Fresh lo w F) (hl : lo' ≤ lo) : Fresh lo' w F := ⟨h.nodup, fun g hg => Nat.le_trans hl (h.low g hg), h.live⟩
theorem Fresh.app {lo hi : Nat} {w : World} {F G : List Nat} (h : Fresh lo w F) (hh : ∀ g ∈ F, g < hi) (k : Fresh hi w G) (hl : lo ≤ hi) : Fresh lo w (F ++ G) :=
  ⟨List.nodup_append.2 ⟨h.nodup, k.nodup, fun a ha b hb e => by have := hh a ha; have := k.low b hb; omega⟩,
   fun g hg => (List.mem_append.1 hg).elim (h.low g) fun hg => Nat.le_trans hl (k.low g hg), h.live.app k.live⟩
theorem Fresh.more {lo : Nat} {w w' : World} {F G : List Nat} (h : Fresh lo w F) (hb : Below w.heap.size w w') (k : Fresh w.heap.size w' G) (hl : lo ≤ w.heap.size) : Fresh lo w' (F ++ G) :=
  (h.step hb).app (fun g hg => h.live.lt g hg) k hl
theorem Fresh.left {lo : Nat} {w : World} {F G : List Nat} (h : Fresh lo w (F ++ G)) : Fresh lo w F :=
  ⟨(List.nodup_append.1 h.nodup).1, fun g hg => h.low g (List.mem_append.2 (.inl hg)), fun g hg => h.live g (List.mem_append.2 (.inl hg))⟩
theorem Fresh.right {lo : Nat} {w : World} {F G : List Nat} (h : Fresh lo w (F ++ G)) : Fresh lo w G :=
  ⟨(List.nodup_append.1 h.nodup).2.1, fun g hg => h.low g (List.mem_append.2 (.inr hg)), fun g hg => h.live g (List.mem_append.2 (.inr hg))⟩
/-- Behind a call that turns others' blocks only. -/
theorem Lies.but {w w' : World} {cs : List Cel} {us : List Value} {F G : List Nat} (h : Lies w cs us F) (hb : But G w w') (hd : ∀ g ∈ F, g ∉ G) : Lies w' cs us F := h.keep hb.size fun g hg => hb.block g (h.lt g hg) (hd g hg)
theorem Lie.but {w w' : World} {c : Cel} {v : Value} {F G : List Nat} (h : Lie w c v F) (hb : But G w w') (hd : ∀ g ∈ F, g ∉ G) : Lie w' c v F := h.keep hb.size fun g hg => hb.block g (h.lt g hg) (hd g hg)
theorem Live.but {w w' : World} {F G : List Nat} (h : Live w F) (hb : But G w w') (hd : ∀ g ∈ F, g ∉ G) : Live w' F := h.keep fun g hg => hb.block g (h.lt g hg) (hd g hg)

/-! ### Sizes and marks -/
/-- What is left of a measure. -/
def lft (left : Int) (n : Nat) : Int := if (n : Int) ≤ left then left - n else -1
theorem ret_lft {left : Int} {n : Nat} {x : Int} (h : (n : Int) ≤ left) (hx : x = left - n) : Ending.returned (.int .i64 x) = .returned (.int .i64 (lft left n)) := by rw [lft, if_pos h, hx]
theorem ret_lno {left : Int} {n : Nat} (h : left < (n : Int)) : Ending.returned (.int .i64 (-1)) = .returned (.int .i64 (lft left n)) := by rw [lft, if_neg (by omega)]

mutual
def Cel.bulk : Cel → Nat
  | .num _ _ => 0
  | .flag _ => 0
  | .seq _ n cs => n + bulks cs
def bulks : List Cel → Nat
  | [] => 0
  | c :: cs => c.bulk + bulks cs
end
theorem bulks_app (a b : List Cel) : bulks (a ++ b) = bulks a + bulks b := by
  induction a with
  | nil => simp [bulks]
  | cons c a ih => simp [bulks, ih]; omega
mutual
def Cel.cnt : Cel → Nat
  | .num _ _ => 1
  | .flag _ => 1
  | .seq _ _ cs => cnts cs
def cnts : List Cel → Nat
  | [] => 0
  | c :: cs => c.cnt + cnts cs
end
theorem num_cnt (k : IntKind) (n : Int) : (Cel.num k n).cnt = 1 := rfl
theorem flag_cnt (b : Bool) : (Cel.flag b).cnt = 1 := rfl
theorem cnts_app (a b : List Cel) : cnts (a ++ b) = cnts a + cnts b := by
  induction a with
  | nil => simp [cnts]
  | cons c a ih => simp [cnts, ih]; omega
def mk1 : IntKind → Int → Int
  | .u8, s => s % 256
  | _, s => s
theorem mk1_i64 (s : Int) : mk1 .i64 s = s := rfl
theorem mk1_u8 (s : Int) : mk1 .u8 s = s % 256 := rfl
mutual
def Cel.mk : Cel → Int → Cel
  | .num k _, s => .num k (mk1 k s)
  | .flag _, s => .flag (s % 3 == 0)
  | .seq sz n cs, s => .seq sz n (mkc cs s)
def mkc : List Cel → Int → List Cel
  | [], _ => []
  | c :: cs, s => c.mk s :: mkc cs (s + c.cnt)
end
theorem mkc_app (a b : List Cel) (s : Int) : mkc (a ++ b) s = mkc a s ++ mkc b (s + cnts a) := by
  induction a generalizing s with
  | nil => simp [mkc, cnts]
  | cons c a ih => simp [mkc, cnts, ih]; congr 1; omega
theorem mkc_len (a : List Cel) (s : Int) : (mkc a s).length = a.length := by
  induction a generalizing s with
  | nil => simp [mkc]
  | cons c a ih => simp [mkc, ih]
/-- By value: the numbers stay. -/
def Cel.cnt0 : Cel → Nat
  | .num _ _ => 0
  | .flag _ => 0
  | c => c.cnt
def cnts0 : List Cel → Nat
  | [] => 0
  | c :: cs => c.cnt0 + cnts0 cs
theorem cnts0_app (a b : List Cel) : cnts0 (a ++ b) = cnts0 a + cnts0 b := by
  induction a with
  | nil => simp [cnts0]
  | cons c a ih => simp [cnts0, ih]; omega
def Cel.mk0 : Cel → Int → Cel
  | .num k n, _ => .num k n
  | .flag b, _ => .flag b
  | c, s => c.mk s
def mkc0 : List Cel → Int → List Cel
  | [], _ => []
  | c :: cs, s => c.mk0 s :: mkc0 cs (s + c.cnt0)
theorem mkc0_app (a b : List Cel) (s : Int) : mkc0 (a ++ b) s = mkc0 a s ++ mkc0 b (s + cnts0 a) := by
  induction a generalizing s with
  | nil => simp [mkc0, cnts0]
  | cons c a ih => simp [mkc0, cnts0, ih]; congr 1; omega
mutual
theorem Lie.cntb {w : World} : ∀ {c : Cel} {v : Value} {F : List Nat}, Lie w c v F → c.cnt ≤ 1 + 65 * c.bulk
  | .num k n, v, F, h => by simp [Cel.cnt]
  | .flag b, v, F, h => by simp [Cel.cnt]
  | .seq sz n cs, v, F, h => by
    rw [Lie] at h
    obtain ⟨h0, us, F2, ⟨A, c, rfl, _, _, hl, _⟩, h2, rfl⟩ := h
    have h3 := h2.cntb
    have h4 := h2.len
    have h5 : n * sz ≤ n * 64 := Nat.mul_le_mul_left n h0
    rw [Cel.cnt, Cel.bulk]
    omega
theorem Lies.cntb {w : World} : ∀ {cs : List Cel} {us : List Value} {F : List Nat}, Lies w cs us F → cnts cs ≤ cs.length + 65 * bulks cs
  | [], us, F, h => by simp [cnts]
  | c :: cs, us, F, h => by
    rw [Lies] at h
    obtain ⟨u, r, F1, F2, rfl, rfl, h1, h2⟩ := h
    have h3 := h1.cntb
    have h4 := h2.cntb
    rw [cnts, bulks, List.length_cons]
    omega
end
theorem cnts0_le (cs : List Cel) : cnts0 cs ≤ cnts cs := by
  induction cs with
  | nil => simp [cnts0, cnts]
  | cons c cs ih =>
    rw [cnts0, cnts]
    cases c <;> simp [Cel.cnt0] <;> omega
mutual
theorem Cel.mk_cnt : ∀ (c : Cel) (s : Int), (c.mk s).cnt = c.cnt
  | .num k n, s => rfl
  | .flag b, s => rfl
  | .seq sz n cs, s => by rw [Cel.mk, Cel.cnt, Cel.cnt, mkc_cnts cs s]
theorem mkc_cnts : ∀ (cs : List Cel) (s : Int), cnts (mkc cs s) = cnts cs
  | [], s => rfl
  | c :: cs, s => by rw [mkc, cnts, cnts, c.mk_cnt s, mkc_cnts cs]
end

/-! ### The round of a marking loop -/
/-- The cells A are marked, the cells B not yet. -/
structure MarkP (w : World) (b off : Nat) (s : Int) (F : List Nat) (A B : List Cel) (us : List Value) (wr : World) : Prop where
  lies : Lies wr (mkc A s ++ B) us F
  range : wr.rangeAt b off us
  live : Live wr (b :: F)
  nodup : (b :: F).Nodup
  but : But (b :: F) w wr
  lt : b < wr.heap.size

theorem MarkP.cell {w : World} {b off : Nat} {s : Int} {F : List Nat} {A B : List Cel} {c : Cel} {us : List Value} {wr : World} (h : MarkP w b off s F A (c :: B) us wr) {p : Nat} (hp : p = A.length) :
    ∃ v Fa Fc Fb ua ub, F = Fa ++ (Fc ++ Fb) ∧ us = ua ++ v :: ub ∧ ua.length = p ∧ Lies wr (mkc A s) ua Fa ∧ Lie wr c v Fc ∧ Lies wr B ub Fb ∧ wr.cell? ⟨b, off + p, none⟩ = some v ∧ wr.frozen? ⟨b, off + p, none⟩ = false := by
  subst hp
  obtain ⟨ua, ub, Fa, Fb, e1, e2, h1, h2⟩ := h.lies.parts
  rw [Lies] at h2
  obtain ⟨v, r, Fc, Fd, rfl, rfl, h3, h4⟩ := h2
  have hl : ua.length = A.length := by rw [h1.len, mkc_len]
  refine ⟨v, Fa, Fc, Fd, ua, r, e2, e1, hl, h1, h3, h4, h.range A.length v ?_, ?_⟩
  · rw [e1, ← hl]; simp
  · obtain ⟨cur, e, he⟩ := h.live b (List.mem_cons_self ..)
    exact frozen_of_row wr b _ _ _ he

/-- A number or a flag is marked in its place. -/
theorem MarkP.prim {w : World} {b off : Nat} {s : Int} {F : List Nat} {A B : List Cel} {c : Cel} {x y : Value} {us : List Value} {wr : World} (h : MarkP w b off s F A (c :: B) us wr) {p : Nat} (hp : p = A.length)
    (hx : ∀ (w : World) (v : Value) (G : List Nat), Lie w c v G → v = x ∧ G = []) (hy : ∀ w : World, Lie w (c.mk (s + cnts A)) y []) :
    wr.cell? ⟨b, off + p, none⟩ = some x ∧ wr.frozen? ⟨b, off + p, none⟩ = false ∧ ∃ us', MarkP w b off s F (A ++ [c]) B us' (wr.setCell ⟨b, off + p, none⟩ y) := by
  obtain ⟨v, Fa, Fc, Fb, ua, ub, e1, e2, e3, h1, h2, h3, h4, h5⟩ := h.cell hp
  obtain ⟨rfl, rfl⟩ := hx _ _ _ h2
  refine ⟨h4, h5, ?_⟩
  have hnd := List.nodup_cons.1 h.nodup
  have hbut : But [b] wr (wr.setCell ⟨b, off + p, none⟩ y) := ⟨rfl, rfl, rfl, by simp, fun g hg hn => Below.heap_setCell wr ⟨b, off + p, none⟩ _ g (fun e => hn (List.mem_singleton.2 e))⟩
  have hd : ∀ g ∈ F, g ∉ [b] := fun g hg he => hnd.1 (List.mem_singleton.1 he ▸ hg)
  refine ⟨us.set p y, ?_, ?_, h.live.set _ _ _, h.nodup, h.but.trans (hbut.mono fun g hg => List.mem_cons.2 (.inl (List.mem_singleton.1 hg))), by simpa using h.lt⟩
  · have e4 : us.set p y = ua ++ y :: ub := by rw [e2, ← e3]; simp
    rw [e4, mkc_app, mkc, mkc, List.append_assoc, List.singleton_append, e1]
    rw [e1] at hd
    refine (h1.but hbut fun g hg => hd g (by simp [hg])).append ?_
    exact lies_cons (hy _) (h3.but hbut fun g hg => hd g (by simp [hg]))
  · intro j u hu
    by_cases hj : p = j
    · subst hj
      have hlt : p < us.length := by rw [e2]; simp; omega
      rw [List.getElem?_set_self hlt] at hu
      rw [World.cell?_setCell_same _ _ _ h4]
      exact hu
    · rw [List.getElem?_set_ne hj] at hu
      rw [World.cell?_setCell_other _ _ _ _ (by intro e; injection e with e1 e2; omega)]
      exact h.range j u hu
theorem MarkP.num {w : World} {b off : Nat} {s : Int} {F : List Nat} {A B : List Cel} {k : IntKind} {x : Int} {us : List Value} {wr : World} (h : MarkP w b off s F A (.num k x :: B) us wr) {p : Nat} (hp : p = A.length) {y : Int} (hy : y = mk1 k (s + cnts A)) :
    wr.cell? ⟨b, off + p, none⟩ = some (.int k x) ∧ wr.frozen? ⟨b, off + p, none⟩ = false ∧ ∃ us', MarkP w b off s F (A ++ [.num k x]) B us' (wr.setCell ⟨b, off + p, none⟩ (.int k y)) :=
  h.prim hp (fun w v G h => by rw [Lie] at h; exact h) fun w => by rw [Cel.mk, ← hy]; exact lie_num _ _ _
theorem MarkP.flag {w : World} {b off : Nat} {s : Int} {F : List Nat} {A B : List Cel} {x : Bool} {us : List Value} {wr : World} (h : MarkP w b off s F A (.flag x :: B) us wr) {p : Nat} (hp : p = A.length) {y : Bool} (hy : y = ((s + cnts A) % 3 == 0)) :
    wr.cell? ⟨b, off + p, none⟩ = some (.bool x) ∧ wr.frozen? ⟨b, off + p, none⟩ = false ∧ ∃ us', MarkP w b off s F (A ++ [.flag x]) B us' (wr.setCell ⟨b, off + p, none⟩ (.bool y)) :=
  h.prim hp (fun w v G h => by rw [Lie] at h; exact h) fun w => by rw [Cel.mk, ← hy]; exact lie_flag _ _

/-- A cell that is marked by a call. -/
theorem MarkP.call {w : World} {b off : Nat} {s : Int} {F : List Nat} {A B : List Cel} {c : Cel} {us : List Value} {wr : World} (h : MarkP w b off s F A (c :: B) us wr) {p : Nat} (hp : p = A.length) {y : Int} (hy : y = s + cnts A) :
    ∃ v Fc, wr.cell? ⟨b, off + p, none⟩ = some v ∧ Lie wr c v Fc ∧ Fc.Nodup ∧ Live wr Fc ∧
      ∀ W, Lie W (c.mk y) v Fc → Live W Fc → But Fc wr W → MarkP w b off s F (A ++ [c]) B us W := by
  subst hy
  obtain ⟨v, Fa, Fc, Fb, ua, ub, e1, e2, e3, h1, h2, h3, h4, h5⟩ := h.cell hp
  have hnd := List.nodup_cons.1 h.nodup
  have hnd2 := hnd.2
  rw [e1] at hnd2
  obtain ⟨n1, n2, n3⟩ := List.nodup_append.1 hnd2
  obtain ⟨n4, n5, n6⟩ := List.nodup_append.1 n2
  have hcF : ∀ g ∈ Fc, g ∈ F := fun g hg => by rw [e1]; simp [hg]
  refine ⟨v, Fc, h4, h2, n4, fun g hg => h.live g (List.mem_cons.2 (.inr (hcF g hg))), fun W hl hv hb => ?_⟩
  have hbb : b ∉ Fc := fun hg => hnd.1 (hcF b hg)
  refine ⟨?_, ?_, ?_, h.nodup, h.but.trans (hb.mono fun g hg => List.mem_cons.2 (.inr (hcF g hg))), Nat.lt_of_lt_of_le h.lt hb.size⟩
  · rw [mkc_app, mkc, mkc, List.append_assoc, List.singleton_append, e1, e2]
    refine (h1.but hb fun g hg hc => n3 g hg g (List.mem_append.2 (.inl hc)) rfl).append ?_
    exact lies_cons hl (h3.but hb fun g hg hc => n6 g hc g hg rfl)
  · intro j u hu
    rw [World.cell?_of_block (w := wr) (a := ⟨b, off + j, none⟩) (hb.block b h.lt hbb)]
    exact h.range j u hu
  · intro g hg
    by_cases hc : g ∈ Fc
    · exact hv g hc
    · obtain ⟨cur, e, he⟩ := h.live g hg
      exact ⟨cur, e, (hb.block g ((Array.getElem?_eq_some_iff.1 he).1) hc).trans he⟩

/-- The loop's state. -/
def MarkL (w : World) (v : Value) (s : Int) (F2 : List Nat) (n : Nat) (A B : List Cel) (wr : World) : Prop :=
  But (blk v ++ F2) w wr ∧ (0 < n → ∃ b off c us, v = .slice (some ⟨b, off, none⟩) n c ∧ MarkP w b off s F2 A B us wr)
theorem MarkL.start {w : World} {sz n : Nat} {cs : List Cel} {v : Value} {F : List Nat} (h : Lie w (.seq sz n cs) v F) (hnd : F.Nodup) (hlv : Live w F) (s : Int) : ∃ F2, F = blk v ++ F2 ∧ MarkL w v s F2 n [] cs w := by
  rw [Lie] at h
  obtain ⟨_, us, F2, ⟨A, c, rfl, h1, h2, h3, h4⟩, h5, rfl⟩ := h
  refine ⟨F2, rfl, But.refl _ _, fun hn => ?_⟩
  obtain ⟨b, off, rfl, hb, hr⟩ := h4 hn
  rw [blk_some hn] at hnd hlv
  exact ⟨b, off, c, us, rfl, by rw [mkc]; exact h5, hr, hlv, hnd, But.refl _ _, hb⟩
theorem MarkL.stop {w wr : World} {sz n : Nat} {cs : List Cel} {v : Value} {F F2 : List Nat} {s : Int} (h : Lie w (.seq sz n cs) v F) (hF : F = blk v ++ F2) (hlv : Live w F) (hm : MarkL w v s F2 n cs [] wr) :
    Lie wr ((Cel.seq sz n cs).mk s) v F ∧ Live wr F ∧ But F w wr := by
  subst hF
  refine ⟨?_, ?_, hm.1⟩
  · rw [Lie] at h
    obtain ⟨h0, us, F3, ⟨A, c, rfl, h1, h2, h3, h4⟩, h5, h6⟩ := h
    have h7 := List.append_cancel_left h6
    subst h7
    rw [Cel.mk, Lie]
    rcases Nat.eq_zero_or_pos n with rfl | hn
    · have hc : cs = [] := List.eq_nil_of_length_eq_zero (by rw [← h5.len, h3]; omega)
      subst hc
      rw [Lies] at h5
      obtain ⟨rfl, rfl⟩ := h5
      exact ⟨h0, [], [], ⟨A, c, rfl, h1, h2, h3, fun hn => absurd hn (by omega)⟩, by rw [mkc]; exact lies_nil _, rfl⟩
    · obtain ⟨b, off, c', us', e, hP⟩ := hm.2 hn
      injection e with e1 e2 e3
      subst e1
      have hl := hP.lies
      rw [List.append_nil] at hl
      refine ⟨h0, us', F2, ⟨_, c, rfl, h1, h2, ?_, fun _ => ⟨b, off, rfl, hP.lt, hP.range⟩⟩, hl, rfl⟩
      rw [hl.len, mkc_len, ← h5.len, h3]
  · rcases Nat.eq_zero_or_pos n with rfl | hn
    · rw [Lie] at h
      obtain ⟨h0, us, F3, ⟨A, c, rfl, h1, h2, h3, h4⟩, h5, h6⟩ := h
      have hc : cs = [] := List.eq_nil_of_length_eq_zero (by rw [← h5.len, h3]; omega)
      subst hc
      rw [Lies] at h5
      obtain ⟨rfl, rfl⟩ := h5
      have := List.append_cancel_left h6
      subst this
      rw [blk_none]
      intro g hg
      cases hg
    · obtain ⟨b, off, c', us', e, hP⟩ := hm.2 hn
      subst e
      rw [blk_some hn]
      exact hP.live
theorem MarkL.round {w : World} {v : Value} {s : Int} {F2 : List Nat} {n b off c : Nat} {A B : List Cel} {us : List Value} {wr : World} (hn : 0 < n) (hv : v = .slice (some ⟨b, off, none⟩) n c) (h : MarkP w b off s F2 A B us wr) : MarkL w v s F2 n A B wr :=
  ⟨by rw [hv, blk_some hn]; exact h.but, fun _ => ⟨b, off, c, us, hv, h⟩⟩

/-- By value: the cells A are marked, the cells B not yet. -/
structure MarkV (w : World) (s : Int) (F : List Nat) (A B : List Cel) (us : List Value) (wr : World) : Prop where
  lies : Lies wr (mkc0 A s ++ B) us F
  live : Live wr F
  nodup : F.Nodup
  but : But F w wr
theorem MarkV.num {w : World} {s : Int} {F : List Nat} {A B : List Cel} {k : IntKind} {x : Int} {us : List Value} {wr : World} (h : MarkV w s F A (.num k x :: B) us wr) : MarkV w s F (A ++ [.num k x]) B us wr :=
  ⟨by rw [mkc0_app, mkc0, mkc0, Cel.mk0, List.append_assoc]; exact h.lies, h.live, h.nodup, h.but⟩
theorem MarkV.flag {w : World} {s : Int} {F : List Nat} {A B : List Cel} {x : Bool} {us : List Value} {wr : World} (h : MarkV w s F A (.flag x :: B) us wr) : MarkV w s F (A ++ [.flag x]) B us wr :=
  ⟨by rw [mkc0_app, mkc0, mkc0, Cel.mk0, List.append_assoc]; exact h.lies, h.live, h.nodup, h.but⟩
theorem MarkV.call {w : World} {s : Int} {F : List Nat} {A B : List Cel} {sz n : Nat} {cs : List Cel} {us : List Value} {wr : World} (h : MarkV w s F A (.seq sz n cs :: B) us wr) {p : Nat} (hp : p = A.length) {v : Value} (hv : us[p]? = some v) {y : Int} (hy : y = s + cnts0 A) :
    ∃ Fc, (∀ g ∈ Fc, g ∈ F) ∧ Lie wr (.seq sz n cs) v Fc ∧ Fc.Nodup ∧ Live wr Fc ∧
      ∀ W, Lie W ((Cel.seq sz n cs).mk y) v Fc → Live W Fc → But Fc wr W → MarkV w s F (A ++ [.seq sz n cs]) B us W := by
  subst hp hy
  obtain ⟨ua, ub, Fa, Fb, e2, e1, h1, h2⟩ := h.lies.parts
  rw [Lies] at h2
  obtain ⟨v', r, Fc, Fd, rfl, rfl, h2, h3⟩ := h2
  have hl : ua.length = A.length := by
    rw [h1.len]
    clear h h1 e2 hv
    induction A generalizing s with
    | nil => rfl
    | cons c A ih => simp [mkc0, ih]
  have hv2 : v' = v := by
    rw [e2, ← hl] at hv
    simpa using hv
  subst hv2
  have hnd2 := h.nodup
  rw [e1] at hnd2
  obtain ⟨n1, n2, n3⟩ := List.nodup_append.1 hnd2
  obtain ⟨n4, n5, n6⟩ := List.nodup_append.1 n2
  have hcF : ∀ g ∈ Fc, g ∈ F := fun g hg => by rw [e1]; simp [hg]
  refine ⟨Fc, hcF, h2, n4, fun g hg => h.live g (hcF g hg), fun W hlw hvw hb => ⟨?_, ?_, h.nodup, h.but.trans (hb.mono hcF)⟩⟩
  · rw [mkc0_app, mkc0, mkc0, List.append_assoc, List.singleton_append, e1, e2]
    refine (h1.but hb fun g hg hc => n3 g hg g (List.mem_append.2 (.inl hc)) rfl).append ?_
    exact lies_cons hlw (h3.but hb fun g hg hc => n6 g hc g hg rfl)
  · intro g hg
    by_cases hc : g ∈ Fc
    · exact hvw g hc
    · obtain ⟨cur, e, he⟩ := h.live g hg
      exact ⟨cur, e, (hb.block g ((Array.getElem?_eq_some_iff.1 he).1) hc).trans he⟩

/-! ### What the laws' helpers do -/
section
variable (P : Program)
def MarkC (f : FuncId) (c : Cel) : Prop := ∀ (v : Value) (F : List Nat) (s : Int) (w : World), Lie w c v F → F.Nodup → Live w F → 0 ≤ s → s + c.cnt ≤ 1099511627776 →
  Calls P f #[v, .int .i64 s] w fun e w' => e = .returned (.int .i64 (s + c.cnt)) ∧ Lie w' (c.mk s) v F ∧ Live w' F ∧ But F w w'
def MarkA (f : FuncId) (cs : List Cel) : Prop := ∀ (us : List Value) (F : List Nat) (s : Int) (w : World), Lies w cs us F → F.Nodup → Live w F → 0 ≤ s → s + cnts0 cs ≤ 1099511627776 →
  Calls P f #[.agg us.toArray, .int .i64 s] w fun e w' => e = .returned (.int .i64 (s + cnts0 cs)) ∧ Lies w' (mkc0 cs s) us F ∧ Live w' F ∧ But F w w'
def HeldC (f : FuncId) (c : Cel) : Prop := ∀ (v : Value) (F : List Nat) (s : Int) (w : World), Lie w (c.mk s) v F → 0 ≤ s → s + c.cnt ≤ 1099511627776 →
  Calls P f #[v, .int .i64 s] w fun e w' => e = .returned (.int .i64 (s + c.cnt)) ∧ Below w.heap.size w w'
def HeldA (f : FuncId) (cs : List Cel) : Prop := ∀ (us : List Value) (F : List Nat) (s : Int) (w : World), Lies w (mkc0 cs s) us F → 0 ≤ s → s + cnts0 cs ≤ 1099511627776 →
  Calls P f #[.agg us.toArray, .int .i64 s] w fun e w' => e = .returned (.int .i64 (s + cnts0 cs)) ∧ Below w.heap.size w w'
def EqC (f : FuncId) (c : Cel) : Prop := ∀ (v1 v2 : Value) (F1 F2 : List Nat) (w : World), Lie w c v1 F1 → Lie w c v2 F2 →
  Calls P f #[v1, v2] w fun e w' => e = .returned (.bool true) ∧ Below w.heap.size w w'
def EqA (f : FuncId) (cs : List Cel) : Prop := ∀ (us1 us2 : List Value) (F1 F2 : List Nat) (w : World), Lies w cs us1 F1 → Lies w cs us2 F2 →
  Calls P f #[.agg us1.toArray, .agg us2.toArray] w fun e w' => e = .returned (.bool true) ∧ Below w.heap.size w w'
def SzC (f : FuncId) (c : Cel) : Prop := ∀ (v : Value) (F : List Nat) (left : Int) (w : World), Lie w c v F → 0 ≤ left → left ≤ 1048576 →
  Calls P f #[v, .int .i64 left] w fun e w' => e = .returned (.int .i64 (lft left c.bulk)) ∧ Below w.heap.size w w'
def SzA (f : FuncId) (cs : List Cel) : Prop := ∀ (us : List Value) (F : List Nat) (left : Int) (w : World), Lies w cs us F → 0 ≤ left → left ≤ 1048576 →
  Calls P f #[.agg us.toArray, .int .i64 left] w fun e w' => e = .returned (.int .i64 (lft left (bulks cs))) ∧ Below w.heap.size w w'
def ToC (f : FuncId) (c : Cel) : Prop := ∀ (v : Value) (F : List Nat) (w : World), Lie w c v F → c.bulk ≤ 1048576 →
  Calls P f #[v] w fun e w' => ∃ v' F', e = .returned v' ∧ Lie w' c v' F' ∧ Fresh w.heap.size w' F' ∧ Below w.heap.size w w'
def ToA (f : FuncId) (cs : List Cel) : Prop := ∀ (us : List Value) (F : List Nat) (w : World), Lies w cs us F → bulks cs ≤ 1048576 →
  Calls P f #[.agg us.toArray] w fun e w' => ∃ us' F', e = .returned (.agg us'.toArray) ∧ Lies w' cs us' F' ∧ Fresh w.heap.size w' F' ∧ Below w.heap.size w w'
end

/-! ### The round of a reading loop -/
theorem Lies.cell {w : World} {A B : List Cel} {c : Cel} {us : List Value} {F : List Nat} (h : Lies w (A ++ c :: B) us F) {p : Nat} (hp : p = A.length) : ∃ v Fc, us[p]? = some v ∧ Lie w c v Fc := by
  subst hp
  obtain ⟨ua, ub, Fa, Fb, e1, e2, h1, h2⟩ := h.parts
  rw [Lies] at h2
  obtain ⟨v, r, Fc, Fd, rfl, rfl, h3, h4⟩ := h2
  exact ⟨v, Fc, by rw [e1, ← h1.len]; simp, h3⟩
theorem Lies.mid {w : World} {A M B : List Cel} {us : List Value} {F : List Nat} (h : Lies w (A ++ (M ++ B)) us F) {p n : Nat} (hp : p = A.length) (hn : n = M.length) : ∃ Fc, Lies w M ((us.drop p).take n) Fc := by
  subst hp hn
  obtain ⟨ua, ub, Fa, Fb, e1, e2, h1, h2⟩ := h.parts
  obtain ⟨uc, ud, Fc, Fd, e3, e4, h3, h4⟩ := h2.parts
  refine ⟨Fc, ?_⟩
  have : (us.drop A.length).take M.length = uc := by rw [e1, ← h1.len, e3, ← h3.len]; simp
  rw [this]
  exact h3
theorem rangeAt_mid {w : World} {b off : Nat} {us : List Value} (h : w.rangeAt b off us) (p n : Nat) : w.rangeAt b (off + p) ((us.drop p).take n) := fun j v hv => by
  rw [Nat.add_assoc]
  refine h (p + j) v ?_
  rw [List.getElem?_take] at hv
  split at hv
  · rwa [List.getElem?_drop] at hv
  · cases hv

/-- The marks are being found again: the cells A are past. -/
structure HeldP (b off : Nat) (s : Int) (F : List Nat) (A B : List Cel) (us : List Value) (wr : World) : Prop where
  lies : Lies wr (mkc (A ++ B) s) us F
  range : wr.rangeAt b off us
  lt : b < wr.heap.size
theorem HeldP.next {b off : Nat} {s : Int} {F : List Nat} {A B : List Cel} {c : Cel} {us : List Value} {wr : World} (h : HeldP b off s F A (c :: B) us wr) : HeldP b off s F (A ++ [c]) B us wr :=
  ⟨by rw [List.append_assoc]; exact h.lies, h.range, h.lt⟩
theorem HeldP.step {b off : Nat} {s : Int} {F : List Nat} {A B : List Cel} {us : List Value} {wr W : World} (h : HeldP b off s F A B us wr) (hb : Below wr.heap.size wr W) : HeldP b off s F A B us W :=
  ⟨h.lies.step hb, fun j v hv => (hb.cell (p := ⟨b, off + j, none⟩) h.lt).trans (h.range j v hv), Nat.lt_of_lt_of_le h.lt hb.size⟩
theorem HeldP.call {b off : Nat} {s : Int} {F : List Nat} {A B : List Cel} {c : Cel} {us : List Value} {wr : World} (h : HeldP b off s F A (c :: B) us wr) {p : Nat} (hp : p = A.length) {y : Int} (hy : y = s + cnts A) :
    ∃ v Fc, wr.cell? ⟨b, off + p, none⟩ = some v ∧ Lie wr (c.mk y) v Fc := by
  subst hy
  have h1 := h.lies
  rw [mkc_app, mkc] at h1
  obtain ⟨v, Fc, h2, h3⟩ := h1.cell (p := p) (by rw [mkc_len]; exact hp)
  exact ⟨v, Fc, h.range p v h2, h3⟩
theorem HeldP.num {b off : Nat} {s : Int} {F : List Nat} {A B : List Cel} {k : IntKind} {x : Int} {us : List Value} {wr : World} (h : HeldP b off s F A (.num k x :: B) us wr) {p : Nat} (hp : p = A.length) {y : Int} (hy : y = mk1 k (s + cnts A)) :
    wr.cell? ⟨b, off + p, none⟩ = some (.int k y) := by
  obtain ⟨v, Fc, h1, h2⟩ := h.call hp rfl
  rw [Cel.mk, Lie, ← hy] at h2
  rw [h1, h2.1]
theorem HeldP.flag {b off : Nat} {s : Int} {F : List Nat} {A B : List Cel} {x : Bool} {us : List Value} {wr : World} (h : HeldP b off s F A (.flag x :: B) us wr) {p : Nat} (hp : p = A.length) {y : Bool} (hy : y = ((s + cnts A) % 3 == 0)) :
    wr.cell? ⟨b, off + p, none⟩ = some (.bool y) := by
  obtain ⟨v, Fc, h1, h2⟩ := h.call hp rfl
  rw [Cel.mk, Lie, ← hy] at h2
  rw [h1, h2.1]
def HeldL (w : World) (v : Value) (s : Int) (F2 : List Nat) (n : Nat) (A B : List Cel) (wr : World) : Prop :=
  Below w.heap.size w wr ∧ (0 < n → ∃ b off c us, v = .slice (some ⟨b, off, none⟩) n c ∧ HeldP b off s F2 A B us wr)
theorem HeldL.start {w : World} {sz n : Nat} {cs : List Cel} {v : Value} {F : List Nat} {s : Int} (h : Lie w ((Cel.seq sz n cs).mk s) v F) : ∃ F2, HeldL w v s F2 n [] cs w := by
  rw [Cel.mk, Lie] at h
  obtain ⟨_, us, F2, ⟨A, c, rfl, h1, h2, h3, h4⟩, h5, rfl⟩ := h
  refine ⟨F2, Below.refl _ _, fun hn => ?_⟩
  obtain ⟨b, off, rfl, hb, hr⟩ := h4 hn
  exact ⟨b, off, c, us, rfl, h5, hr, hb⟩
theorem HeldL.round {w : World} {v : Value} {s : Int} {F2 : List Nat} {n b off c : Nat} {A B : List Cel} {us : List Value} {wr : World} (hv : v = .slice (some ⟨b, off, none⟩) n c) (h : HeldP b off s F2 A B us wr) (hb : Below w.heap.size w wr) : HeldL w v s F2 n A B wr :=
  ⟨hb, fun _ => ⟨b, off, c, us, hv, h⟩⟩
theorem Lie.form {w : World} {sz n : Nat} {cs : List Cel} {v : Value} {F : List Nat} (h : Lie w (.seq sz n cs) v F) : ∃ A c, v = .slice A n c ∧ n ≤ c ∧ c ≤ maxLen := by
  rw [Lie] at h
  obtain ⟨_, us, F2, ⟨A, c, e, h1, h2, _⟩, _⟩ := h
  exact ⟨A, c, e, h1, h2⟩

/-! ### Cells that are read -/
structure ReadP (b off : Nat) (cs : List Cel) (us : List Value) (F : List Nat) (wr : World) : Prop where
  lies : Lies wr cs us F
  range : wr.rangeAt b off us
  lt : b < wr.heap.size
theorem ReadP.step {b off : Nat} {cs : List Cel} {us : List Value} {F : List Nat} {wr W : World} (h : ReadP b off cs us F wr) (hb : Below wr.heap.size wr W) : ReadP b off cs us F W :=
  ⟨h.lies.step hb, fun j v hv => (hb.cell (p := ⟨b, off + j, none⟩) h.lt).trans (h.range j v hv), Nat.lt_of_lt_of_le h.lt hb.size⟩
theorem ReadP.cell {b off : Nat} {A B : List Cel} {c : Cel} {us : List Value} {F : List Nat} {wr : World} (h : ReadP b off (A ++ c :: B) us F wr) {p : Nat} (hp : p = A.length) : ∃ v Fc, wr.cell? ⟨b, off + p, none⟩ = some v ∧ Lie wr c v Fc := by
  obtain ⟨v, Fc, h1, h2⟩ := h.lies.cell hp
  exact ⟨v, Fc, h.range p v h1, h2⟩
theorem ReadP.mid {b off : Nat} {A M B : List Cel} {us : List Value} {F : List Nat} {wr : World} (h : ReadP b off (A ++ (M ++ B)) us F wr) {p n : Nat} (hp : p = A.length) (hn : M.length = n) :
    ∃ xs Fc, xs.length = n ∧ wr.rangeAt b (off + p) xs ∧ Lies wr M xs Fc := by
  obtain ⟨Fc, h1⟩ := h.lies.mid hp hn.symm
  exact ⟨_, Fc, by rw [h1.len, hn], rangeAt_mid h.range p n, h1⟩
theorem Lie.read {w : World} {sz n : Nat} {cs : List Cel} {v : Value} {F : List Nat} (h : Lie w (.seq sz n cs) v F) :
    ∃ A c, v = .slice A n c ∧ n ≤ c ∧ c ≤ maxLen ∧ (0 < n → ∃ b off us F2, A = some ⟨b, off, none⟩ ∧ ReadP b off cs us F2 w) := by
  rw [Lie] at h
  obtain ⟨_, us, F2, ⟨A, c, e, h1, h2, h3, h4⟩, h5, _⟩ := h
  refine ⟨A, c, e, h1, h2, fun hn => ?_⟩
  obtain ⟨b, off, e2, hb, hr⟩ := h4 hn
  exact ⟨b, off, us, F2, e2, h5, hr, hb⟩
theorem Lie.sz {w : World} {sz n : Nat} {cs : List Cel} {v : Value} {F : List Nat} (h : Lie w (.seq sz n cs) v F) : sz ≤ 64 ∧ cs.length = n * sz := by
  rw [Lie] at h
  obtain ⟨h0, us, F2, ⟨A, c, e, h1, h2, h3, h4⟩, h5, _⟩ := h
  exact ⟨h0, by rw [← h5.len, h3]⟩

/-! ### A struct in a block of its own -/
def Box (w : World) (g : Nat) (t : TypeId) (us : List Value) : Prop := w.heap[g]? = some (.cells us.toArray t (0, 0))
section
variable {w w' : World} {g : Nat} {t : TypeId} {us : List Value}
theorem Box.lt (h : Box w g t us) : g < w.heap.size := (Array.getElem?_eq_some_iff.1 h).1
theorem Box.cell (h : Box w g t us) {j : Nat} {u : Value} (hu : us[j]? = some u) : w.cell? ⟨g, j, none⟩ = some u := by
  rw [cell_of_row w g j _ _ (0, 0) h]
  simpa using hu
theorem Box.fz (h : Box w g t us) (j : Nat) : w.frozen? ⟨g, j, none⟩ = false := frozen_of_row w g j _ _ h
theorem Box.step (h : Box w g t us) (hb : Below w.heap.size w w') : Box w' g t us := (hb.block g h.lt).trans h
theorem Box.keep (h : Box w g t us) (hb : w'.heap[g]? = w.heap[g]?) : Box w' g t us := hb.trans h
theorem Box.set (h : Box w g t us) (j : Nat) (x : Value) : Box (w.setCell ⟨g, j, none⟩ x) g t (us.set j x) := by
  have := heap_setCell_same w g j _ _ x h
  rw [Box, this]
  simp
theorem Box.range (h : Box w g t us) : w.rangeAt g 0 us := fun j v hv => by
  rw [Nat.zero_add]
  exact h.cell hv
theorem Box.mid (h : Box w g t us) (p n : Nat) : w.rangeAt g p ((us.drop p).take n) := fun j v hv => by
  refine h.cell ?_
  rw [List.getElem?_take] at hv
  split at hv
  · rwa [List.getElem?_drop] at hv
  · cases hv
theorem Box.there (h : Box w g t us) {o n : Nat} (hn : o + n ≤ us.length) : w.there g o n := fun j hj => by
  refine ⟨?_, h.fz _⟩
  have : us[o + j]? = some us[o + j] := List.getElem?_eq_getElem (by omega)
  rw [h.cell this]
  rfl
theorem Box.new (w : World) (us : List Value) (t : TypeId) : Box (w.alloc (.cells us.toArray t)) w.heap.size t us := heap_alloc_new w _
theorem Box.other (h : Box w g t us) (b j : Nat) (x : Value) (hne : g ≠ b) : Box (w.setCell ⟨b, j, none⟩ x) g t us := (Below.heap_setCell w ⟨b, j, none⟩ x g hne).trans h
end
/-- A list is written over from a place on. -/
def setList (xs : List Value) : Nat → List Value → List Value
  | _, [] => xs
  | o, v :: r => setList (xs.set o v) (o + 1) r
theorem setList_len (o : Nat) (vs xs : List Value) : (setList xs o vs).length = xs.length := by
  induction vs generalizing o xs with
  | nil => rfl
  | cons v r ih => rw [setList, ih, List.length_set]
theorem Box.sets {g : Nat} {t : TypeId} : ∀ {vs : List Value} {o : Nat} {w : World} {us : List Value}, Box w g t us → Box (w.setCells g o vs) g t (setList us o vs)
  | [], o, w, us, h => h
  | v :: r, o, w, us, h => by
    rw [World.setCells, setList]
    exact Box.sets (h.set o v)
theorem setList_at (us zs vs : List Value) (o : Nat) (ho : o = us.length) (h : vs.length ≤ zs.length) : setList (us ++ zs) o vs = us ++ vs ++ zs.drop vs.length := by
  subst ho
  induction vs generalizing us zs with
  | nil => simp [setList]
  | cons v r ih =>
    cases zs with
    | nil => simp at h
    | cons z zs =>
      rw [setList]
      have e : (us ++ z :: zs).set us.length v = (us ++ [v]) ++ zs := by simp
      rw [e]
      have := ih (us ++ [v]) zs (by simpa using h)
      rw [List.length_append] at this
      rw [show us.length + 1 = us.length + [v].length by rfl, this]
      simp
theorem but_set (w : World) (g o : Nat) (v : Value) : But [g] w (w.setCell ⟨g, o, none⟩ v) := ⟨rfl, rfl, rfl, by simp, fun k hk hn => Below.heap_setCell w ⟨g, o, none⟩ v k (fun e => hn (List.mem_singleton.2 e))⟩
theorem but_sets (w : World) (g : Nat) : ∀ (vs : List Value) (o : Nat), But [g] w (w.setCells g o vs)
  | vs, o => by
    induction vs generalizing o w with
    | nil => exact But.refl _ _
    | cons v r ih =>
      rw [World.setCells]
      exact (but_set w g o v).trans (ih _ _)
theorem size_sets (g : Nat) (vs : List Value) (o : Nat) (w : World) : (w.setCells g o vs).heap.size = w.heap.size := by
  induction vs generalizing o w with
  | nil => rfl
  | cons v r ih => rw [World.setCells, ih]; simp

/-! ### A row that is filled -/
/-- The block g of the row: us, then what was there. -/
structure CopyP (w : World) (g : Nat) (e : TypeId) (tot : Nat) (A : List Cel) (us : List Value) (F : List Nat) (wr : World) : Prop where
  row : ∃ zs, Box wr g e (us ++ zs) ∧ (us ++ zs).length = tot
  lies : Lies wr A us F
  fresh : Fresh (g + 1) wr F
  below : Below w.heap.size w wr
  low : w.heap.size ≤ g
theorem CopyP.start {w w1 : World} {g : Nat} {e : TypeId} {tot : Nat} {zs : List Value} (hb : Box w1 g e zs) (hl : zs.length = tot) (bel : Below w.heap.size w w1) (hg : w.heap.size ≤ g) : CopyP w g e tot [] [] [] w1 :=
  ⟨⟨zs, hb, hl⟩, lies_nil _, Fresh.nil _ _, bel, hg⟩
/-- Behind the call that made the element. -/
theorem CopyP.put {w wr w2 : World} {g : Nat} {e : TypeId} {tot : Nat} {A M : List Cel} {us vs : List Value} {F F2 : List Nat} (h : CopyP w g e tot A us F wr) (hb : Below wr.heap.size wr w2) (hl : Lies w2 M vs F2) (hf : Fresh wr.heap.size w2 F2)
    {p : Nat} (hp : p = A.length) (ht : A.length + M.length ≤ tot) :
    w2.there g p vs.length ∧ CopyP w g e tot (A ++ M) (us ++ vs) (F ++ F2) (w2.setCells g p vs) := by
  obtain ⟨⟨zs, h1, h2⟩, h3, h4, h5, h6⟩ := h
  have hu : us.length = p := by rw [h3.len, hp]
  have hv : vs.length = M.length := hl.len
  have hgl := h1.lt
  have b2 := h1.step hb
  rw [List.length_append] at h2
  have hset : Box (w2.setCells g p vs) g e (us ++ vs ++ zs.drop vs.length) := by
    rw [← setList_at us zs vs p hu.symm (by omega)]
    exact b2.sets
  have bs := but_sets w2 g vs p
  have h4' : Fresh (g + 1) w2 (F ++ F2) := by
    refine (h4.step hb).app (hi := wr.heap.size) (fun x hx => h4.live.lt x hx) hf (by omega)
  have hd : ∀ x ∈ F ++ F2, x ∉ [g] := fun x hx he => by
    have := h4'.low x hx
    have := List.mem_singleton.1 he
    omega
  refine ⟨b2.there (by rw [List.length_append]; omega), ⟨⟨zs.drop vs.length, hset, by simp; omega⟩, ?_, ⟨h4'.nodup, h4'.low, h4'.live.but bs hd⟩, ?_, h6⟩⟩
  · exact ((h3.step hb).append hl).but bs hd
  · exact bs.below (h5.trans (hb.mono (by omega))) (fun x hx => by rw [List.mem_singleton.1 hx]; exact h6) (by have := h5.size; have := hb.size; omega)
theorem CopyP.stop {w wr : World} {g : Nat} {e : TypeId} {n sz : Nat} {A : List Cel} {us : List Value} {F : List Nat} (h : CopyP w g e (n * sz) A us F wr) (hA : A.length = n * sz) (h64 : sz ≤ 64) (hn : n ≤ maxLen) :
    ∃ F', Lie wr (.seq sz n A) (.slice (some ⟨g, 0, none⟩) n n) F' ∧ Fresh w.heap.size wr F' ∧ Below w.heap.size w wr := by
  obtain ⟨⟨zs, h1, h2⟩, h3, h4, h5, h6⟩ := h
  have hz : zs = [] := List.eq_nil_of_length_eq_zero (by rw [List.length_append, h3.len, hA] at h2; omega)
  subst hz
  rw [List.append_nil] at h1 h2
  refine ⟨blk (.slice (some ⟨g, 0, none⟩) n n) ++ F, ?_, ?_, h5⟩
  · rw [Lie]
    exact ⟨h64, us, F, ⟨_, n, rfl, Nat.le_refl _, hn, h2, fun _ => ⟨g, 0, rfl, h1.lt, h1.range⟩⟩, h3, rfl⟩
  · rcases Nat.eq_zero_or_pos n with rfl | hp
    · rw [blk_none]
      exact h4.base (by omega)
    · rw [blk_some hp]
      refine ⟨List.nodup_cons.2 ⟨fun hg => by have := h4.low g hg; omega, h4.nodup⟩, fun x hx => ?_, fun x hx => ?_⟩
      · rcases List.mem_cons.1 hx with rfl | hx
        · exact h6
        · have := h4.low x hx; omega
      · rcases List.mem_cons.1 hx with rfl | hx
        · exact ⟨_, _, h1⟩
        · exact h4.live x hx

/-! ### Guards -/
theorem at_load (ty : TypeId) {P : Program} {ops : Array Oper} {rest : List Oper} {d : Option Tmp} {x : Operand} {t : TypeId} {pos : String} {after : Array Edge} {guard : Option (Tmp × Bool)} {a : Act} {w : World} {Q : Exit → Act → World → Prop}
    (h : wpList P ops Q (⟨d, .load ty x, t, pos, after, guard⟩ :: rest) a w) : wpList P ops Q (⟨d, .load ty x, t, pos, after, guard⟩ :: rest) a w := h
theorem at_store (ty : TypeId) {P : Program} {ops : Array Oper} {rest : List Oper} {d : Option Tmp} {x y : Operand} {t : TypeId} {pos : String} {after : Array Edge} {guard : Option (Tmp × Bool)} {a : Act} {w : World} {Q : Exit → Act → World → Prop}
    (h : wpList P ops Q (⟨d, .store ty x y, t, pos, after, guard⟩ :: rest) a w) : wpList P ops Q (⟨d, .store ty x y, t, pos, after, guard⟩ :: rest) a w := h
/-- Cells read in a region of which only the tail writes. -/
theorem wpStill_load_rng {P : Program} {ops : Array Oper} {rest : List Oper} {o : Oper} {a : Act} {w : World} {K : Act → Prop} (hgd : o.guard = none) (ty : TypeId) (x : Operand) (ho : o.op = .load ty x)
    (b off : Nat) (hx : a.eval x = .pointer (some ⟨b, off, none⟩)) (cs : List Value) (d : TypeDesc) (hc : w.rangeAt b off cs)
    (hu : P.underlying ty = some d) (hd : d.isRow = true) (hi : (P.info? ty).map (·.size) = some cs.length)
    (h : wpStill P ops w K rest (a.put o.dst (.agg cs.toArray))) : wpStill P ops w K (o :: rest) a := by
  refine wpStill_step fun L hL => ?_
  have hw : Region.wanted o (yielded ops a.tmps) = true := by simp [Region.wanted, hgd]
  rw [if_pos hw]
  unfold Oper.still execOp
  simp only [ho, hx, Instr.loadAt, Instr.sureAddr, Sem.run_bind, Sem.run_pure, Result.andThen_ok, run_loadVar_mid w b off ty cs d hc hu hd hi, Oper.stillUpon]
  exact ⟨trivial, hL _ h⟩

end Go.Proofs.YtigklnokgmcifaaDoor


/-
  PutNum: the model and the program write the same bytes.
-/
namespace Go.Proofs.YtigklnokgmcifaaDoor
open Go.RowKit

/-- The bytes of a number, the lowest seven bits first. -/
def vint (n : Nat) : List Int := if n < 128 then [(n : Int)] else ((n : Int) % 128 + 128) :: vint (n / 128)
theorem vint_last {n : Nat} (h : n < 128) : vint n = [(n : Int)] := by rw [vint, if_pos h]
theorem vint_more {n : Nat} (h : ¬ n < 128) : vint n = ((n : Int) % 128 + 128) :: vint (n / 128) := by rw [vint, if_neg h]
theorem vint_byt (n : Nat) : Byt (vint n) := by
  induction n using Nat.strongRecOn with
  | _ n ih =>
    by_cases h : n < 128
    · rw [vint_last h]
      exact Byt.one (by omega) (by omega)
    · rw [vint_more h]
      intro x hx
      rcases List.mem_cons.1 hx with rfl | hx
      · omega
      · exact ih (n / 128) (by omega) x hx

/-- What PutNum answers. -/
def putNum (l : List Int) (n : Int) : List Int := if n < 0 ∨ 2147483647 < n then l else l ++ vint n.toNat
theorem putNum_byt {l : List Int} (h : Byt l) (n : Int) : Byt (putNum l n) := by
  unfold putNum
  split
  · exact h
  · exact h.app (vint_byt _)

theorem vint_len (n : Nat) (h : n ≤ 2147483647) : (vint n).length ≤ 5 := by
  by_cases h1 : n < 128
  · rw [vint_last h1]; simp
  by_cases h2 : n / 128 < 128
  · rw [vint_more h1, vint_last h2]; simp
  by_cases h3 : n / 128 / 128 < 128
  · rw [vint_more h1, vint_more h2, vint_last h3]; simp
  by_cases h4 : n / 128 / 128 / 128 < 128
  · rw [vint_more h1, vint_more h2, vint_more h3, vint_last h4]; simp
  have h5 : n / 128 / 128 / 128 / 128 < 128 := by omega
  rw [vint_more h1, vint_more h2, vint_more h3, vint_more h4, vint_last h5]; simp
theorem vint_step {xs l : List Int} {m n : Nat} (h : ¬ m < 128) (hx : xs ++ vint m = l ++ vint n) : (xs ++ [(m : Int) % 128 + 128]) ++ vint (m / 128) = l ++ vint n := by
  rw [vint_more h] at hx
  rw [← hx]
  simp
theorem vint_room {xs l : List Int} {m n : Nat} (hn : n ≤ 2147483647) (hx : xs ++ vint m = l ++ vint n) : xs.length ≤ l.length + 5 := by
  have := congrArg List.length hx
  have h5 := vint_len n hn
  simp at this
  omega
theorem putNum_room (l : List Int) (n : Int) (hl : l.length ≤ 1048576) : (putNum l n).length ≤ 1099511627776 := by
  unfold putNum
  split
  · omega
  · rw [List.length_append]
    have := vint_len n.toNat (by omega)
    omega

set_option maxRecDepth 20000 in
set_option maxHeartbeats 800000 in
theorem specPutNumOut (l : List Int) (v : Value) (n : Int) (w : World) (hv : Rd w v (bs l)) (hl : l.length ≤ 1099511627776) (hn : n < 0 ∨ 2147483647 < n) :
    Calls Tryd.prog 95 #[v, .int .i64 n] w fun e w' => ∃ v', e = .returned v' ∧ Own 5 w.heap.size w'.heap.size w' v' (bs l) ∧ Below w.heap.size w w' := by
  obtain ⟨i0, hi0, hz0, hz1, hz2⟩ := info_parts u8info
  obtain ⟨A, c, hV, _, _, _⟩ := id hv
  rw [bs_length] at *
  subst hV
  have HV := hide hv
  clear hv
  by_cases h0 : n < 0
  all_goals
    go_enter Tryd.func95, Tryd.ntmps95
    go_wp2_with (at_builtin; refine wpList_app _ rfl (.tmp 6) (.tmp 7) _ rfl w.heap.size 5 i0 _ 1 Tryd.underlying22 hi0 hz0 hz1 hz2 rfl _ 0 [] rfl (own_lit0 w _) _ (bs l) rfl (HV.out.alloc _) (bs_one l) (by rw [bs_length]; simp only [maxLen]; omega) (by rw [bs_length]; omega) (by simp) ?_; intro v1 w1 own1 gr1)
    go_ret
    exact ⟨_, rfl, Own.of (own_cells own1 (List.nil_append _)) (by simp), below_app0 gr1⟩

set_option maxRecDepth 20000 in
set_option maxHeartbeats 800000 in
theorem specPutNumIn (l : List Int) (v : Value) (n : Nat) (w : World) (hv : Rd w v (bs l)) (hl : l.length ≤ 1099511627776) (hn : n ≤ 2147483647) :
    Calls Tryd.prog 95 #[v, .int .i64 n] w fun e w' => ∃ v', e = .returned v' ∧ Own 5 w.heap.size w'.heap.size w' v' (bs (l ++ vint n)) ∧ Below w.heap.size w w' := by
  obtain ⟨i0, hi0, hz0, hz1, hz2⟩ := info_parts u8info
  obtain ⟨A, c, hV, _, _, _⟩ := id hv
  rw [bs_length] at *
  subst hV
  have HV := hide hv
  clear hv
  go_enter Tryd.func95, Tryd.ntmps95
  go_wp2_with (at_builtin; refine wpList_app _ rfl (.tmp 6) (.tmp 7) _ rfl w.heap.size 5 i0 _ 1 Tryd.underlying22 hi0 hz0 hz1 hz2 rfl _ 0 [] rfl (own_lit0 w _) _ (bs l) rfl (HV.out.alloc _) (bs_one l) (by rw [bs_length]; simp only [maxLen]; omega) (by rw [bs_length]; omega) (by simp) ?_; intro v1 w1 own1 gr1)
  have c1 : Below w.heap.size w w1 := below_app0 gr1
  have own2 : w1.ownsRow w.heap.size 5 1 v1 l.length (bs l) := own_len (own_cells own1 (List.nil_append _)) (by rw [bs_length]; omega)
  clear own1 gr1
  go_loopw [1, 5] (fun t v wr => ∃ (m : Nat) (xs : List Int), m ≤ 2147483647 ∧ t = .int .i64 m ∧ wr.ownsRow w.heap.size 5 1 v xs.length (bs xs) ∧ Hid (xs ++ vint m = l ++ vint n) ∧ Below w.heap.size w wr)
    (fun t _ _ => (intOf t).toNat)
  case atStart => exact ⟨n, l, hn, rfl, own2, hide rfl, c1⟩
  case round =>
    obtain ⟨m, xs, hm, rfl, hown, hx, hbel⟩ := hrel
    have hroom := vint_room hn hx.out
    by_cases h128 : m < 128
    · go_wp2_with (at_builtin; refine wpList_app _ rfl (.tmp 27) (.tmp 30) _ rfl w.heap.size 5 i0 _ 1 Tryd.underlying22 hi0 hz0 hz1 hz2 rfl _ _ _ rfl (hown.alloc _) _ _ rfl (rd_one _ _ _) (bs_one _) (by rw [bs_length]; simp only [maxLen, List.length_singleton]; omega) (by rw [bs_length]; simp only [List.length_singleton]; omega) (by have := hbel.size; simp; omega) ?_; intro v3 w3 own3 gr3)
      go_ret
      refine ⟨_, rfl, Own.of (own_cells own3 ?_) (by rw [bs_length, ← hx.out, vint_last h128]; simp [bs]), ?_⟩
      · rw [← bs_append, ← hx.out, vint_last h128]
      · exact Below.row (hbel.alloc hbel.size _) (by have := hbel.size; simp; omega) (hown.alloc _) gr3
    · go_wp2_with (at_builtin; refine wpList_app _ rfl (.tmp 18) (.tmp 23) _ rfl w.heap.size 5 i0 _ 1 Tryd.underlying22 hi0 hz0 hz1 hz2 rfl _ _ _ rfl (hown.alloc _) _ _ rfl (rd_one _ _ _) (bs_one _) (by rw [bs_length]; simp only [maxLen, List.length_singleton]; omega) (by rw [bs_length]; simp only [List.length_singleton]; omega) (by have := hbel.size; simp; omega) ?_; intro v3 w3 own3 gr3)
      go_roundw
      case rel => exact ⟨m / 128, xs ++ [(m : Int) % 128 + 128], by omega, by go_num, own_len (own_cells own3 (bs_append _ _).symm) (by simp [bs]), hide (vint_step h128 hx.out), Below.row (hbel.alloc hbel.size _) (by have := hbel.size; simp; omega) (hown.alloc _) gr3⟩
      case measure => simp [intOf]; omega

end Go.Proofs.YtigklnokgmcifaaDoor


/-
  Trees: as they are, and as they lie in memory.
-/
namespace Go.Proofs.YtigklnokgmcifaaDoor
open Go.RowKit
set_option linter.unusedVariables false

inductive T where
  | node (k : Int) (d : List Int) (ns : List (List Int)) (ks : List T)
def T.kind : T → Int | .node k _ _ _ => k
def T.data : T → List Int | .node _ d _ _ => d
def T.names : T → List (List Int) | .node _ _ ns _ => ns
def T.kids : T → List T | .node _ _ _ ks => ks
theorem T.ind {P : T → Prop} (h : ∀ k d ns ks, (∀ t ∈ ks, P t) → P (.node k d ns ks)) : ∀ t, P t
  | .node k d ns ks => h k d ns ks fun t ht => T.ind h t
termination_by t => SizeOf.sizeOf t
decreasing_by
  have := List.sizeOf_lt_of_mem ht
  simp
  omega

/-- The four cells of a tree. -/
structure Q where
  k : Int
  d : Value
  n : Value
  c : Value
@[reducible] def Q.val (q : Q) : Value := .agg #[.int .i64 q.k, q.d, q.n, q.c]

/-- A slice whose elements are trees' cells. -/
def Rd4 (w : World) (v : Value) (qs : List Q) : Prop :=
  ∃ A c, v = .slice A qs.length c ∧ qs.length ≤ c ∧ c ≤ maxLen ∧
    (0 < qs.length → ∃ b off, A = some ⟨b, off, none⟩ ∧ b < w.heap.size ∧ ∀ i q, qs[i]? = some q →
      w.cell? ⟨b, off + 4 * i, none⟩ = some (.int .i64 q.k) ∧ w.cell? ⟨b, off + (4 * i + 1), none⟩ = some q.d ∧ w.cell? ⟨b, off + (4 * i + 2), none⟩ = some q.n ∧ w.cell? ⟨b, off + (4 * i + 3), none⟩ = some q.c)
theorem Rd4.below {w w' : World} {v : Value} {qs : List Q} (h : Rd4 w v qs) (hb : Below w.heap.size w w') : Rd4 w' v qs := by
  obtain ⟨A, c, rfl, h1, h2, h3⟩ := h
  refine ⟨A, c, rfl, h1, h2, fun hp => ?_⟩
  obtain ⟨b, off, rfl, hlt, hc⟩ := h3 hp
  refine ⟨b, off, rfl, Nat.lt_of_lt_of_le hlt hb.size, fun i q hq => ?_⟩
  obtain ⟨c0, c1, c2, c3⟩ := hc i q hq
  exact ⟨(hb.cell (p := ⟨b, off + 4 * i, none⟩) hlt).trans c0, (hb.cell (p := ⟨b, off + (4 * i + 1), none⟩) hlt).trans c1, (hb.cell (p := ⟨b, off + (4 * i + 2), none⟩) hlt).trans c2, (hb.cell (p := ⟨b, off + (4 * i + 3), none⟩) hlt).trans c3⟩

/-- A slice of slices of bytes. -/
def RdN (w : World) (v : Value) (ns : List (List Int)) : Prop := ∃ vs : List Value, Rd w v vs ∧ vs.length = ns.length ∧ ∀ i u, vs[i]? = some u → Rd w u (bs (ns.getD i []))
theorem RdN.below {w w' : World} {v : Value} {ns : List (List Int)} (h : RdN w v ns) (hb : Below w.heap.size w w') : RdN w' v ns := by
  obtain ⟨vs, h1, h2, h3⟩ := h
  exact ⟨vs, h1.below hb, h2, fun i u hu => (h3 i u hu).below hb⟩

mutual
/-- The cells q are those of the tree t. -/
def TIn (w : World) : T → Q → Prop
  | .node k d ns ks, q => q.k = k ∧ Rd w q.d (bs d) ∧ RdN w q.n ns ∧ ∃ qs, Rd4 w q.c qs ∧ TIns w ks qs
def TIns (w : World) : List T → List Q → Prop
  | [], qs => qs = []
  | t :: ts, qs => ∃ q r, qs = q :: r ∧ TIn w t q ∧ TIns w ts r
end
theorem TIns.len {w : World} : ∀ {ts : List T} {qs : List Q}, TIns w ts qs → qs.length = ts.length
  | [], qs, h => by rw [TIns] at h; rw [h]; rfl
  | t :: ts, qs, h => by
    rw [TIns] at h
    obtain ⟨q, r, rfl, _, hr⟩ := h
    simp [TIns.len hr]
theorem TIns.at_ {w : World} : ∀ {ts : List T} {qs : List Q}, TIns w ts qs → ∀ (i : Nat) (t : T), ts[i]? = some t → ∃ q, qs[i]? = some q ∧ TIn w t q
  | [], _, _, i, t, ht => by simp at ht
  | t0 :: ts, qs, h, i, t, ht => by
    rw [TIns] at h
    obtain ⟨q, r, rfl, hq, hr⟩ := h
    cases i with
    | zero =>
      simp at ht
      subst ht
      exact ⟨q, rfl, hq⟩
    | succ i => exact TIns.at_ hr i t (by simpa using ht)
theorem TIns.mk {w : World} : ∀ {ts : List T} {qs : List Q}, qs.length = ts.length → (∀ (i : Nat) (t : T) (q : Q), ts[i]? = some t → qs[i]? = some q → TIn w t q) → TIns w ts qs
  | [], qs, h, _ => by rw [TIns]; exact List.eq_nil_of_length_eq_zero h
  | t :: ts, [], h, _ => by simp at h
  | t :: ts, q :: r, h, hh => by
    rw [TIns]
    exact ⟨q, r, rfl, hh 0 t q rfl rfl, TIns.mk (by simpa using h) fun i t q h1 h2 => hh (i + 1) t q (by simpa using h1) (by simpa using h2)⟩
theorem TIn.below {w w' : World} (hb : Below w.heap.size w w') : ∀ {t : T} {q : Q}, TIn w t q → TIn w' t q := by
  intro t
  induction t using T.ind with
  | h k d ns ks ih =>
    intro q h
    rw [TIn] at h ⊢
    obtain ⟨h1, h2, h3, qs, h4, h5⟩ := h
    refine ⟨h1, h2.below hb, h3.below hb, qs, h4.below hb, TIns.mk h5.len fun i t q h6 h7 => ?_⟩
    obtain ⟨q', h8, h9⟩ := h5.at_ i t h6
    obtain rfl : q' = q := Option.some.inj (h8.symm.trans h7)
    exact ih t (List.mem_of_getElem? h6) h9

/-- All numbers are bytes. -/
def BytN (ns : List (List Int)) : Prop := ∀ n ∈ ns, Byt n
mutual
def T.Byts : T → Prop
  | .node _ d ns ks => Byt d ∧ BytN ns ∧ T.Bytss ks
def T.Bytss : List T → Prop
  | [] => True
  | t :: ts => t.Byts ∧ T.Bytss ts
end
theorem T.Bytss.mem : ∀ {ts : List T}, T.Bytss ts → ∀ t ∈ ts, t.Byts
  | [], _, t, ht => by cases ht
  | t0 :: ts, h, t, ht => by
    rw [T.Bytss] at h
    rcases List.mem_cons.1 ht with rfl | ht
    · exact h.1
    · exact T.Bytss.mem h.2 t ht

/-- Four cells loaded as a tree's value. -/
theorem load4 {P : Program} (w : World) (ty : TypeId) (b off : Nat) (q : Q) (d : TypeDesc) (hu : P.underlying ty = some d) (hd : (match d with | .struct _ | .array _ _ => true | _ => false) = true) (hi : (P.info? ty).map (·.size) = some 4)
    (h0 : w.cell? ⟨b, off, none⟩ = some (.int .i64 q.k)) (h1 : w.cell? ⟨b, off + 1, none⟩ = some q.d) (h2 : w.cell? ⟨b, off + 2, none⟩ = some q.n) (h3 : w.cell? ⟨b, off + 3, none⟩ = some q.c) :
    (loadVar ty ⟨b, off, none⟩).run P w = .ok q.val w := by
  have hl : (loadCells ⟨b, off, none⟩ 4).run P w = .ok #[.int .i64 q.k, q.d, q.n, q.c] w :=
    run_loadCells_list (P := P) w ⟨b, off, none⟩ [.int .i64 q.k, q.d, q.n, q.c] (fun j v hv => by
      rw [Addr.add_lit]
      match j, hv with
      | 0, hv => simp at hv; subst hv; exact h0
      | 1, hv => simp at hv; subst hv; exact h1
      | 2, hv => simp at hv; subst hv; exact h2
      | 3, hv => simp at hv; subst hv; exact h3)
  cases hq : P.info? ty with
  | none => simp [hq] at hi
  | some i =>
    have hs : i.size = 4 := by simpa [hq] using hi
    have hagg : (isAgg ty).run P w = .ok true w := by
      unfold isAgg
      rw [Sem.run_bind, run_underlying hu w]
      cases d <;> simp_all
    simp [loadVar, Sem.run_bind, hagg, sizeOf, typeInfo, hq, hs, hl, Q.val]

theorem wpList_load4 {P : Program} {ops : Array Oper} {rest : List Oper} {o : Oper} {a : Act} {w : World} {K : Exit → Act → World → Prop} (hgd : o.guard = none) (ty : TypeId) (x : Operand) (ho : o.op = .load ty x)
    (b off : Nat) (hx : a.eval x = .pointer (some ⟨b, off, none⟩)) (q : Q) (d : TypeDesc) (hu : P.underlying ty = some d) (hd : (match d with | .struct _ | .array _ _ => true | _ => false) = true) (hi : (P.info? ty).map (·.size) = some 4)
    (hc : w.cell? ⟨b, off, none⟩ = some (.int .i64 q.k) ∧ w.cell? ⟨b, off + 1, none⟩ = some q.d ∧ w.cell? ⟨b, off + 2, none⟩ = some q.n ∧ w.cell? ⟨b, off + 3, none⟩ = some q.c)
    (h : wpList P ops K rest (a.put o.dst q.val) w) : wpList P ops K (o :: rest) a w :=
  wpList_plain hgd fun _ hK => by
    unfold Oper.wp execOp
    simp only [ho, hx, Instr.loadAt, Instr.sureAddr, Sem.run_bind, Sem.run_pure, Result.andThen_ok, load4 w ty b off q d hu hd hi hc.1 hc.2.1 hc.2.2.1 hc.2.2.2]
    exact hK _ _ h

def sumLen : List (List Int) → Nat
  | [] => 0
  | n :: r => n.length + sumLen r
theorem sumLen_next {ns : List (List Int)} {k : Nat} (h : k < ns.length) : sumLen (ns.take (k + 1)) = sumLen (ns.take k) + (ns.getD k []).length := by
  induction ns generalizing k with
  | nil => simp at h
  | cons n r ih =>
    cases k with
    | zero => simp [sumLen]
    | succ k =>
      have := ih (k := k) (by simpa using h)
      simp only [List.take_succ_cons, sumLen, List.getD_cons_succ] at *
      omega
theorem sumLen_take (ns : List (List Int)) (k : Nat) : sumLen (ns.take k) ≤ sumLen ns := by
  induction ns generalizing k with
  | nil => simp [sumLen]
  | cons n r ih =>
    cases k with
    | zero => simp [sumLen]
    | succ k =>
      have := ih k
      simp only [List.take_succ_cons, sumLen]
      omega
mutual
/-- How many bytes, names and kids there are. -/
def T.bulk : T → Nat
  | .node _ d ns ks => d.length + (ns.length + sumLen ns) + (ks.length + T.bulks ks)
def T.bulks : List T → Nat
  | [] => 0
  | t :: ts => t.bulk + T.bulks ts
end
theorem T.bulks_next {ks : List T} {k : Nat} (h : k < ks.length) : T.bulks (ks.take (k + 1)) = T.bulks (ks.take k) + (ks[k]).bulk := by
  induction ks generalizing k with
  | nil => simp at h
  | cons t r ih =>
    cases k with
    | zero => simp [T.bulks]
    | succ k =>
      have := ih (k := k) (by simpa using h)
      simp only [List.take_succ_cons, T.bulks, List.getElem_cons_succ] at *
      omega
theorem T.bulks_take (ks : List T) (k : Nat) : T.bulks (ks.take k) ≤ T.bulks ks := by
  induction ks generalizing k with
  | nil => simp [T.bulks]
  | cons t r ih =>
    cases k with
    | zero => simp [T.bulks]
    | succ k =>
      have := ih k
      simp only [List.take_succ_cons, T.bulks]
      omega

theorem RdN.get {w : World} {A : Option Addr} {n c m : Nat} {ns : List (List Int)} (h : RdN w (.slice A n c) ns) (hm : m < ns.length) : ∃ b off u, A = some ⟨b, off, none⟩ ∧ b < w.heap.size ∧ w.cell? ⟨b, off + m, none⟩ = some u ∧ Rd w u (bs (ns.getD m [])) := by
  obtain ⟨vs, ⟨A', c', e, _, _, h3⟩, hl, hvs⟩ := h
  injection e with e1 _ _
  obtain ⟨b, off, e2, hb, hc⟩ := h3 (by omega)
  have hv : m < vs.length := by omega
  exact ⟨b, off, vs[m], e1.trans e2, hb, hc m _ (List.getElem?_eq_getElem hv), hvs m _ (List.getElem?_eq_getElem hv)⟩

theorem Rd4.range {w : World} {b off k : Nat} {q : Q} (h0 : w.cell? ⟨b, off + 4 * k, none⟩ = some (.int .i64 q.k)) (h1 : w.cell? ⟨b, off + (4 * k + 1), none⟩ = some q.d) (h2 : w.cell? ⟨b, off + (4 * k + 2), none⟩ = some q.n) (h3 : w.cell? ⟨b, off + (4 * k + 3), none⟩ = some q.c) : w.rangeAt b (off + k * 4) [.int .i64 q.k, q.d, q.n, q.c] := fun j v hv => by
  rw [Nat.mul_comm k 4]
  match j, hv with
  | 0, hv => simp at hv; subst hv; exact h0
  | 1, hv => simp at hv; subst hv; exact h1
  | 2, hv => simp at hv; subst hv; exact h2
  | 3, hv => simp at hv; subst hv; exact h3


end Go.Proofs.YtigklnokgmcifaaDoor
