
/-
  Merged: OwnN, CopyT, OwnF.
-/
import Derived.Test.YtnloknhcdlannaaApp
import Derived.Test.YtnloknhcdlannaaOwn
import Derived.Test.YtnloknhcdlannaaTree
import Derived.Test.YtnloknhcdlannaaClone
import Derived.Test.YtnloknhcdlannaaDat
import Derived.Test.YtnloknhcdlannaaNLie

namespace Go.Proofs.Ytnloknhcdlannaa
open Go.RowKit
set_option linter.unusedVariables false

theorem namesInfo5 : (Try.prog.info? 22).map (fun i => (i.zero, i.size, i.bytes)) = some (some (.slice none 0 0), 1, 24) := by kernel_rfl
theorem own_keep {w w' : World} {lo n size : Nat} {e : TypeId} {v : Value} {xs : List Value} (h : w.ownsRow lo e size v n xs) (hk : ∀ g, v.ownBlock = some g → w'.heap[g]? = w.heap[g]?) : w'.ownsRow lo e size v n xs := by
  refine ⟨h.1, ?_⟩
  rcases h.2 with hn | ⟨g, cap, cur, rfl, hbg, hg, rest⟩
  · exact .inl hn
  · exact .inr ⟨g, cap, cur, rfl, hbg, by rw [hk g rfl]; exact hg, rest⟩
theorem own_base {w : World} {lo lo' n size : Nat} {e : TypeId} {v : Value} {xs : List Value} (h : w.ownsRow lo e size v n xs) (hl : lo' ≤ lo) : w.ownsRow lo' e size v n xs := by
  refine ⟨h.1, ?_⟩
  rcases h.2 with hn | ⟨g, cap, cur, rfl, hbg, rest⟩
  · exact .inl hn
  · exact .inr ⟨g, cap, cur, rfl, Nat.le_trans hl hbg, rest⟩
theorem own_ne {w : World} {lo lo' n n' size size' : Nat} {e e' : TypeId} {v u : Value} {xs ys : List Value} (h : w.ownsRow lo e size v n xs) (k : w.ownsRow lo' e' size' u n' ys) (he : e ≠ e') : u.ownBlock = none ∨ u.ownBlock ≠ v.ownBlock := by
  rcases k.2 with ⟨rfl, _⟩ | ⟨g, cap, cur, rfl, _, hg, _⟩
  · exact .inl rfl
  · refine .inr fun h2 => ?_
    rcases h.2 with ⟨rfl, _⟩ | ⟨g', cap', cur', rfl, _, hg', _⟩
    · cases h2
    · have : g = g' := Option.some.inj h2
      subst this
      rw [hg] at hg'
      injection hg' with hg'
      injection hg' with _ hg' _
      exact he hg'.symm

def SepB (us : List Value) : Prop := ∀ (i j : Nat) (u u' : Value) (g : Nat), i ≠ j → us[i]? = some u → us[j]? = some u' → u.ownBlock = some g → u'.ownBlock ≠ some g
/-- v holds us; each of us is a text of ns in a row of its own. -/
structure OwnU (lo : Nat) (w : World) (v : Value) (ns : List (List Int)) (us : List Value) : Prop where
  len : us.length = ns.length
  row : w.ownsRow lo 22 1 v us.length us
  each : ∀ i u, us[i]? = some u → w.ownsRow lo 5 1 u (ns.getD i []).length (bs (ns.getD i []))
  sep : SepB us
def OwnS (lo : Nat) (w : World) (v : Value) (ns : List (List Int)) : Prop := ∃ us, OwnU lo w v ns us
theorem own_rdV {w : World} {lo n : Nat} {e : TypeId} {v : Value} {xs : List Value} (h : w.ownsRow lo e 1 v n xs) (hn : n = xs.length) : Rd w v xs := (Own.of h hn).rd
theorem OwnU.rd {lo : Nat} {w : World} {v : Value} {ns : List (List Int)} {us : List Value} (h : OwnU lo w v ns us) : RdN w v ns :=
  ⟨us, own_rdV h.row rfl, h.len, fun i u hu => own_rdV (h.each i u hu) (by rw [bs_length])⟩
theorem OwnS.rd {lo : Nat} {w : World} {v : Value} {ns : List (List Int)} (h : OwnS lo w v ns) : RdN w v ns := h.elim fun _ h => h.rd
theorem OwnU.keep {lo : Nat} {w w' : World} {v : Value} {ns : List (List Int)} {us : List Value} (h : OwnU lo w v ns us) (hk : ∀ g, lo ≤ g → g < w.heap.size → w'.heap[g]? = w.heap[g]?) : OwnU lo w' v ns us :=
  ⟨h.len, own_keep h.row fun g hg => hk g (h.row.lt g hg).1 (h.row.lt g hg).2, fun i u hu => own_keep (h.each i u hu) fun g hg => hk g ((h.each i u hu).lt g hg).1 ((h.each i u hu).lt g hg).2, h.sep⟩
theorem OwnS.step {lo : Nat} {w w' : World} {v : Value} {ns : List (List Int)} (h : OwnS lo w v ns) (hb : Below w.heap.size w w') : OwnS lo w' v ns := h.elim fun us h => ⟨us, h.keep fun g _ hg => hb.block g hg⟩
theorem OwnS.outside {lo a b : Nat} {w w' : World} {v : Value} {ns : List (List Int)} (h : OwnS lo w v ns) (ho : Outside a b w w') (hd : b ≤ lo) : OwnS lo w' v ns := h.elim fun us h => ⟨us, h.keep fun g hl hg => ho.block g hg (.inr (by omega))⟩
theorem OwnS.nil (lo : Nat) (w : World) : OwnS lo w (.slice none 0 0) [] := ⟨[], rfl, World.ownsRow_nil _ _ _ _, fun i u hu => by simp at hu, fun i j u u' g _ hu => by simp at hu⟩
theorem OwnS.base {lo lo' : Nat} {w : World} {v : Value} {ns : List (List Int)} (h : OwnS lo w v ns) (hl : lo' ≤ lo) : OwnS lo' w v ns := h.elim fun us h => ⟨us, h.len, own_base h.row hl, fun i u hu => own_base (h.each i u hu) hl, h.sep⟩
theorem getD_app {ns : List (List Int)} {n : List Int} {i : Nat} (h : i < ns.length) : (ns ++ [n]).getD i [] = ns.getD i [] := by
  simp [List.getD, List.getElem?_append_left h]
theorem getD_last (ns : List (List Int)) (n : List Int) : (ns ++ [n]).getD ns.length [] = n := by simp [List.getD]
/-- One text more: it was made in W1, and appended to the row behind one more block. -/
theorem OwnU.snoc {lo : Nat} {W W1 W3 : World} {v v' u : Value} {ns : List (List Int)} {n : List Int} {us : List Value} (h : OwnU lo W v ns us) (hb : Below W.heap.size W W1) (hu : W1.ownsRow W.heap.size 5 1 u n.length (bs n)) (hlo : lo ≤ W.heap.size) (o : Obj)
    (own' : W3.ownsRow lo 22 1 v' (us.length + 1) (us ++ [u])) (hg : (W1.alloc o).grownBy W3 v.ownBlock) : OwnU lo W3 v' (ns ++ [n]) (us ++ [u]) := by
  have row1 := own_step h.row hb
  refine ⟨by simp [h.len], own_len own' (by simp), fun i x hx => ?_, fun i j x x' g hij hx hx' hxg => ?_⟩
  · rcases Nat.lt_or_ge i us.length with hi | hi
    · rw [List.getElem?_append_left hi] at hx
      rw [getD_app (by rw [← h.len]; exact hi)]
      exact ((own_step (h.each i x hx) hb).alloc o).kept hg (own_ne row1 (own_step (h.each i x hx) hb) (by decide))
    · have hi2 : i = us.length := by
        have := (List.getElem?_eq_some_iff.1 hx).1
        simp at this
        omega
      subst hi2
      rw [List.getElem?_append_right (Nat.le_refl _), Nat.sub_self] at hx
      obtain rfl : u = x := by simpa using hx
      rw [h.len, getD_last]
      exact (own_base (hu.alloc o) hlo).kept hg (own_ne row1 hu (by decide))
  · have old : ∀ i x g, i < us.length → us[i]? = some x → x.ownBlock = some g → g < W.heap.size := fun i x g _ hx hg => ((h.each i x hx).lt g hg).2
    have new : ∀ g, u.ownBlock = some g → W.heap.size ≤ g := fun g hg => (hu.lt g hg).1
    have at_ : ∀ i x, (us ++ [u])[i]? = some x → (i < us.length ∧ us[i]? = some x) ∨ (i = us.length ∧ x = u) := fun i x hx => by
      rcases Nat.lt_or_ge i us.length with hi | hi
      · rw [List.getElem?_append_left hi] at hx; exact .inl ⟨hi, hx⟩
      · have hi2 : i = us.length := by
          have := (List.getElem?_eq_some_iff.1 hx).1
          simp at this
          omega
        subst hi2
        rw [List.getElem?_append_right (Nat.le_refl _), Nat.sub_self] at hx
        exact .inr ⟨rfl, by simpa using hx.symm⟩
    intro hx2
    rcases at_ i x hx with ⟨h1, h2⟩ | ⟨h1, rfl⟩ <;> rcases at_ j x' hx' with ⟨h3, h4⟩ | ⟨h3, rfl⟩
    · exact h.sep i j x x' g hij h2 h4 hxg hx2
    · have := old i x g h1 h2 hxg; have := new g hx2; omega
    · have := old j x' g h3 h4 hx2; have := new g hxg; omega
    · omega

theorem rd_oneV (w : World) (u : Value) (t : TypeId) : Rd (w.alloc (.cells #[u] t)) (.slice (some ⟨w.heap.size, 0, none⟩) 1 1) [u] := by
  refine ⟨_, 1, rfl, Nat.le_refl _, by simp [maxLen], fun _ => ⟨w.heap.size, 0, rfl, by simp, fun i x hx => ?_⟩⟩
  have hi := (List.getElem?_eq_some_iff.1 hx).1
  have hi0 : i = 0 := by simpa using hi
  subst hi0
  rw [World.cell?_alloc_at _ _ _ _ rfl]
  simpa using hx
theorem slice_one {A : Option Addr} {n c : Nat} : ∀ u ∈ [Value.slice A n c], u.oneCell' = true := by
  intro u hu
  rw [List.mem_singleton.1 hu]
  rfl


end Go.Proofs.Ytnloknhcdlannaa


namespace Go.Proofs.Ytnloknhcdlannaa
open Go.RowKit
set_option linter.unusedVariables false

theorem names_len {w : World} {v : Value} {ns : List (List Int)} (hn : RdN w v ns) : ∃ (A : Option Addr) (c : Nat), v = .slice A ns.length c ∧ ns.length ≤ c ∧ c ≤ maxLen := by
  obtain ⟨vs, ⟨A, c, e, h1, h2, _⟩, h4, _⟩ := hn
  rw [h4] at e h1
  exact ⟨A, c, e, h1, h2⟩
/-- The row of slices grows by one: what the append wants and gives. -/
theorem names_room {lo : Nat} {w : World} {v : Value} {ns : List (List Int)} {us : List Value} (h : OwnU lo w v ns us) : us.length = ns.length := h.len

set_option maxRecDepth 20000 in
set_option maxHeartbeats 1600000 in
theorem copyTexts (ns : List (List Int)) (v : Value) (w : World) (hv : RdN w v ns) (hn : ns.length ≤ 1048576) (hl : ∀ n ∈ ns, n.length ≤ 1048576) :
    Calls Try.prog 67 #[v] w fun e w' => ∃ v', e = .returned v' ∧ OwnS w.heap.size w' v' ns ∧ Below w.heap.size w w' := by
  obtain ⟨i0, hi0, hz0, hz1, hz2⟩ := info_parts namesInfo5
  obtain ⟨A, c, rfl, hc1, hc2⟩ := names_len hv
  obtain ⟨N, hN⟩ : ∃ N, ns.length = N := ⟨_, rfl⟩
  rw [hN] at hc1 hv hn ⊢
  unfold maxLen at hc2
  have HNL := hide hN
  have HNN := hide hv
  have HLL := hide hl
  clear hN hv hl
  go_enter Try.func67, Try.ntmps67
  go_wp2
  go_loopw [3, 8] (fun u i wr => ∃ j : Nat, j ≤ N ∧ i = .int .i64 j ∧ Hid (OwnS w.heap.size wr u (ns.take j)) ∧ Below w.heap.size w wr)
    (fun _ i _ => N - (intOf i).toNat)
  case atStart => exact ⟨0, Nat.zero_le _, rfl, hide (OwnS.nil _ _), Below.refl _ _⟩
  case round =>
    obtain ⟨j, hj, rfl, HO, hbel⟩ := hrel
    have HB := hide hbel
    by_cases hlt : j < N
    · have hjn : j < ns.length := by rw [HNL.out]; exact hlt
      obtain ⟨b, off, x, hA', hblt, cx, rx⟩ := HNN.out.get hjn
      subst hA'
      have q1 := (hbel.cell (p := ⟨b, off + j, none⟩) hblt).trans cx
      have rr1 := rx.below hbel
      have hmj : ns.getD j [] ∈ ns := by simp [List.getD, List.getElem?_eq_getElem hjn]
      have hlj := HLL.out _ hmj
      obtain ⟨us, hU⟩ := HO.out
      have hul : us.length = j := by rw [hU.len, List.length_take]; omega
      have htk : ns.take (j + 1) = ns.take j ++ [ns.getD j []] := by
        rw [List.take_succ_eq_append_getElem hjn]
        simp [List.getD, List.getElem?_eq_getElem hjn]
      generalize ns.getD j [] = n at *
      have hcl := clone n x wr rr1 (by omega)
      have HC := hide hcl
      have HU := hide hU
      have HT := hide htk
      have HUL := hide hul
      have hlw : w.heap.size ≤ wr.heap.size := hbel.size
      have k1 : (j : Int) < (N : Int) := by omega
      clear hcl hU htk hul HO cx rx rr1 hbel
      go_wp2_with fail
      refine HC.out.mono ?_
      rintro e w2 ⟨u2, rfl, o2, b2⟩
      have row2 := hide (own_step HU.out.row b2)
      have hl2 : w.heap.size ≤ w2.heap.size := Nat.le_trans hlw b2.size
      have hz := hide b2.size
      obtain ⟨A2, c2, hu2, -, -⟩ := own_slice o2
      subst hu2
      have HB2 := hide b2
      have HO2 := hide o2
      clear b2 o2 q1
      go_wp2_with (at_builtin; refine wpList_app _ rfl (.tmp 12) (.tmp 15) _ rfl w.heap.size 22 i0 _ 24 Try.underlying31 hi0 hz0 hz1 hz2 rfl _ _ _ rfl (row2.out.alloc _) _ _ rfl (rd_oneV _ _ _) slice_one (by rw [HUL.out]; simp [maxLen]; omega) (by rw [HUL.out]; simp; omega) (by simp; omega) ?_; intro v3 w3 own3 gr3)
      have hs := HU.out.snoc HB2.out HO2.out hlw _ own3 gr3
      have hS : OwnS w.heap.size w3 v3 (ns.take (j + 1)) := by rw [HT.out]; exact ⟨_, hs⟩
      have hb3 : Below w.heap.size w w3 := Below.row ((HB.out.trans (HB2.out.mono HB.out.size)).alloc hl2 _) (by simp; omega) (row2.out.alloc _) gr3
      have HS := hide hS
      have HB3 := hide hb3
      clear hs hS hb3 own3 gr3
      go_roundw
      case rel => exact ⟨j + 1, by omega, by go_num, HS, HB3.out⟩
      case measure => simp [intOf]; omega
    · obtain rfl : j = N := by omega
      have e2 : ns.take j = ns := List.take_of_length_le (by rw [HNL.out]; omega)
      rw [e2] at HO
      clear hbel e2
      go_wp2
      go_ret
      exact ⟨_, rfl, HO.out, HB.out⟩

end Go.Proofs.Ytnloknhcdlannaa


namespace Go.Proofs.Ytnloknhcdlannaa
open Go.RowKit
set_option linter.unusedVariables false

theorem own_block {w : World} {lo n : Nat} {e : TypeId} {v : Value} {xs : List Value} (h : w.ownsRow lo e 1 v n xs) {g : Nat} (hg : g ∈ blk v) : v.ownBlock = some g ∧ lo ≤ g ∧ ∃ cur, w.heap[g]? = some (.cells cur e (0, 0)) := by
  rcases h.2 with ⟨rfl, _⟩ | ⟨b, cap, cur, rfl, hb, hc, _⟩
  · cases hg
  · cases n with
    | zero => rw [blk_none] at hg; cases hg
    | succ n =>
      have := List.mem_singleton.1 hg
      subst this
      exact ⟨rfl, hb, cur, hc⟩
theorem each_lies {w : World} {lo : Nat} : ∀ (us : List Value) (ns : List (List Int)), us.length = ns.length → (∀ i u, us[i]? = some u → w.ownsRow lo 5 1 u (ns.getD i []).length (bs (ns.getD i []))) → SepB us →
    ∃ F, Lies w (cells (fun n => [raw n]) ns) us F ∧ F.Nodup ∧ (∀ g ∈ F, ∃ (i : Nat) (u : Value), us[i]? = some u ∧ u.ownBlock = some g ∧ lo ≤ g ∧ ∃ cur, w.heap[g]? = some (.cells cur 5 (0, 0)))
  | [], [], _, _, _ => ⟨[], by rw [cells]; exact lies_nil w, List.nodup_nil, fun g hg => by cases hg⟩
  | [], n :: ns, h, _, _ => by simp at h
  | u :: us, [], h, _, _ => by simp at h
  | u :: us, n :: ns, h, he, hs => by
    have h0 := he 0 u rfl
    have h0' : w.ownsRow lo 5 1 u n.length (bs n) := by simpa using h0
    have hr : Rd w u (bs n) := (Own.of h0' (bs_length n).symm).rd
    obtain ⟨F, f1, f2, f3⟩ := each_lies us ns (by simpa using h) (fun i x hx => by have := he (i + 1) x (by simpa using hx); simpa using this)
      (fun i j x x' g hij hx hx' hg => hs (i + 1) (j + 1) x x' g (by omega) (by simpa using hx) (by simpa using hx') hg)
    refine ⟨blk u ++ F, ?_, ?_, ?_⟩
    · rw [cells, List.singleton_append]; exact lies_cons hr.lie f1
    · refine List.nodup_append.2 ⟨?_, f2, ?_⟩
      · obtain ⟨A, c, rfl, _⟩ := own_slice h0'
        cases n.length with
        | zero => rw [blk_none]; exact List.nodup_nil
        | succ m => cases A <;> simp [blk]
      · intro a ha b hb e
        subst e
        obtain ⟨i, x, hx, hxb, _⟩ := f3 a hb
        exact hs 0 (i + 1) u x a (by omega) rfl (by simpa using hx) (own_block h0' ha).1 hxb
    · intro g hg
      rcases List.mem_append.1 hg with hg | hg
      · obtain ⟨a, b, c⟩ := own_block h0' hg
        exact ⟨0, u, rfl, a, b, c⟩
      · obtain ⟨i, x, hx, r⟩ := f3 g hg
        exact ⟨i + 1, x, by simpa using hx, r⟩
theorem OwnS.fresh {lo : Nat} {w : World} {v : Value} {ns : List (List Int)} (h : OwnS lo w v ns) : ∃ F, Lie w (names ns) v F ∧ Fresh lo w F := by
  obtain ⟨us, hl, hr, he, hs⟩ := h
  obtain ⟨F, f1, f2, f3⟩ := each_lies us ns hl he hs
  have hrd : Rd w v us := own_rdV hr rfl
  refine ⟨blk v ++ F, ?_, ?_, ?_, ?_⟩
  · rw [names, Lie]
    exact ⟨by decide, us, F, hrd.rdc hl.symm, f1, rfl⟩
  · refine List.nodup_append.2 ⟨?_, f2, ?_⟩
    · obtain ⟨A, c, rfl, _⟩ := own_slice hr
      cases us.length with
      | zero => rw [blk_none]; exact List.nodup_nil
      | succ m => cases A <;> simp [blk]
    · intro a ha b hb e
      subst e
      obtain ⟨_, _, cur, h1⟩ := own_block hr ha
      obtain ⟨i, x, hx, hxb, _, cur2, h2⟩ := f3 a hb
      rw [h1] at h2
      injection h2 with h2
      injection h2 with _ h2 _
      exact absurd h2 (by decide)
  · intro g hg
    rcases List.mem_append.1 hg with hg | hg
    · exact (own_block hr hg).2.1
    · obtain ⟨i, x, hx, hxb, hlo, _⟩ := f3 g hg
      exact hlo
  · intro g hg
    rcases List.mem_append.1 hg with hg | hg
    · obtain ⟨_, _, cur, h1⟩ := own_block hr hg
      exact ⟨cur, _, h1⟩
    · obtain ⟨i, x, hx, hxb, hlo, cur, h1⟩ := f3 g hg
      exact ⟨cur, _, h1⟩

end Go.Proofs.Ytnloknhcdlannaa
