/-
  Parts of the proof: ShaN, SizeS, DataS, Iter, ShaO, BytP, DataT, IterN, Name, Bulk, M4, OutI, At4, BytsOk, ObjP.
-/
import Derived.Test.YtmhapnlgakkljaaGreatDoorMp8
import Derived.Test.YtmhapnlgakkljaaGreatDoorMp18
import Derived.Test.YtmhapnlgakkljaaGreatDoorMp16
import Derived.Test.YtmhapnlgakkljaaGreatDoorMp1
import Derived.Test.YtmhapnlgakkljaaGreatDoorMp0
import Derived.Shelf.Abstract
import Derived.WalkKit
import Derived.OwnWalkIn
import Derived.TacticsInMore
import Derived.StillTailTactics
import Derived.Deep.RegionHeld3
import Derived.IntWalk
import Derived.Test.YtmhapnlgakkljaaGreatDoorMp15
import Derived.Test.YtmhapnlgakkljaaGreatDoorMp4
import Derived.Test.YtmhapnlgakkljaaGreatDoorMp7
import Derived.WalkSpells
import Derived.Laws.BytesArg
import Derived.Deep.QuietTactic
import Derived.BigQuiet
import Derived.Deep.Cut
import Derived.Deep.DeepCutAuto
import Derived.Deep.CutBlock

/-
  Sha256: the model and the program give the same bytes.
-/
namespace Go.Proofs.YtmhapnlgakkljaaGreatDoor
open Go.RowKit
set_option linter.unusedVariables false

theorem Rd.far {w w1 w' : World} {v : Value} {xs : List Value} {lo hi : Nat} (h : Rd w v xs) (hb : Below w.heap.size w w1) (ho : Outside lo hi w1 w') (hlo : w.heap.size ≤ lo) : Rd w' v xs :=
  h.below (ho.below hb hlo hb.size)

set_option maxRecDepth 20000 in
set_option maxHeartbeats 1600000 in
theorem mixAll (l : List Int) (hB : Byt l) (n : Nat) (hn : l.length = 64 * n) (hl : n ≤ 100000) (s : S8) (hs : s.Ok) (g : Nat) (v : Value) (w : World)
    (hv : ∀ W, Outside g (g + 1) w W → Rd W v (bs l)) (hg : At w g 191 (wd s.list)) (hT : Tab w) (hne : 1 < g) :
    Calls Tryz.prog 182 #[.pointer (some ⟨g, 0, none⟩), v] w fun e w' => (∃ v, e = .returned v) ∧ At w' g 191 (wd (hashN s l n).list) ∧ Outside g (g + 1) w w' := by
  have h0 : Outside g (g + 1) w w := Outside.of_below (Below.refl _ _) _ _
  obtain ⟨A, c, rfl, hc1, hc2, _⟩ := hv w h0
  rw [bs_length] at *
  unfold maxLen at hc2
  have HG := hide hg
  have HT := hide hT
  have HV := hide hv
  have HN := hide hn
  have hlm : l.length ≤ 6400000 := by omega
  clear hg hT hv hn
  go_enter Tryz.func182, Tryz.ntmps182
  go_wp2
  go_loopw [4] (fun i wr => ∃ k : Nat, k ≤ n ∧ i = .int .i64 (64 * k) ∧ At wr g 191 (wd (hashN s l k).list) ∧ Outside g (g + 1) w wr)
    (fun i _ => l.length - (intOf i).toNat)
  case atStart => exact ⟨0, by omega, by go_num, HG.out, h0⟩
  case round =>
    obtain ⟨k, hk, rfl, hat, hO⟩ := hrel
    have hn := HN.out
    by_cases hlt : k < n
    · obtain ⟨A2, c2, e2, _, _, hrd⟩ := HV.out wr hO
      injection e2 with e3 _ e4
      subst e3 e4
      rw [bs_length] at *
      obtain ⟨b, off, rfl, hblt, hcell⟩ := hrd (by omega)
      have hpart : Rd wr (.slice (some ⟨b, off + 64 * k, none⟩) 64 (c - 64 * k)) (bs (blk64 l k)) := Rd.part hcell hblt (k := 64 * k) (n := 64) (by omega) (by omega) (by unfold maxLen; omega) rfl
      have hmix := mix (hashN s l k) (hashN_ok hs _ _) g (blk64 l k) (blk_byt hB k) (blk_len (by omega)) _ wr hpart hat (HT.out.outside hO hne)
      have HO := hide hO
      clear hcell hrd hpart hat hO
      have q6 : 64 * (k : Int) ≤ 64 * (k : Int) + 64 := by omega
      have q7 : ¬ c = 64 * k := by omega
      have q5 : 64 * (k : Int) + 64 ≤ (c : Int) := by omega
      have q4 : 64 * (k : Int) < (l.length : Int) := by omega
      have hm : l.length - (64 * k + 64) < l.length - 64 * k := by omega
      clear hn
      go_wp2_with (go_at_call 193; (with_reducible refine hmix.mono ?_); rintro e w2 ⟨⟨v2, rfl⟩, at2, o2⟩)
      go_roundw
      case rel => exact ⟨k + 1, by omega, by go_num, at2, HO.out.trans o2⟩
      case measure => have hn := HN.out; simp [intOf]; omega
    · obtain rfl : k = n := by omega
      have HA := hide hat
      have HO := hide hO
      have q4 : ¬ 64 * (k : Int) < (l.length : Int) := by omega
      clear hat hO hn
      go_wp2
      go_end0
      exact ⟨⟨_, rfl⟩, HA.out, HO.out⟩

/-- What Sha256 answers. -/
def sha256 (l : List Int) : List Int := if 100000 < l.length then [] else shaL l
end Go.Proofs.YtmhapnlgakkljaaGreatDoor


/-
  The model's TreeOk and TreeSize.
-/
namespace Go.Proofs.YtmhapnlgakkljaaGreatDoor
open Go.RowKit
set_option linter.unusedVariables false

/-- What TreeOk answers. -/
def treeOk (t : T) : Bool := t.okAt 1 && decide (t.size ≤ 40)
theorem okRest_treeOk (t : T) : decide (0 ≤ okRest t 1 40) = treeOk t := by
  unfold okRest treeOk
  cases t.okAt 1 with
  | false => rfl
  | true =>
    rw [if_pos rfl, Bool.true_and, rest]
    by_cases h : t.size ≤ 40
    · rw [if_pos (by omega), decide_eq_true h]
      exact decide_eq_true (by omega)
    · rw [if_neg (by omega), decide_eq_false h]
      rfl

set_option maxRecDepth 20000 in
set_option maxHeartbeats 800000 in
theorem specTreeOk (t : T) (hB : t.Byts) (q : Q) (w : World) (hq : TIn w t q) :
    Calls Tryz.prog 81 #[q.val] w fun e w' => e = .returned (.bool (treeOk t)) ∧ Below w.heap.size w w' := by
  obtain ⟨wa, hwa, box, ba, hz⟩ := boxed w q 52
  have x0 := box.c0
  have x1 := box.c1
  have x2 := box.c2
  have x3 := box.c3
  have hcall := specOk t q 1 40 wa hB (by omega) (by omega) (by omega) (hq.below ba)
  have hr := okRest_treeOk t
  obtain ⟨x, hx⟩ : ∃ x, okRest t 1 40 = x := ⟨_, rfl⟩
  rw [hx] at hcall hr
  have HR := hide hr
  have HC := hide hcall
  clear hr hx hq box hcall
  go_enter Tryz.func81, Tryz.ntmps81
  go_wp2_with fail
  refine HC.out.mono ?_
  rintro e w2 ⟨rfl, b2⟩
  go_wp2_with fail
  go_ret
  exact ⟨ret_bool HR.out, ba.trans (b2.mono ba.size)⟩

end Go.Proofs.YtmhapnlgakkljaaGreatDoor


/-
  The model's TreeData.
-/
namespace Go.Proofs.YtmhapnlgakkljaaGreatDoor
open Go.RowKit
set_option linter.unusedVariables false

mutual
/-- The data of all nodes, in order. -/
def T.dat : T → List Int
  | .node _ d _ ks => d ++ T.dats ks
def T.dats : List T → List Int
  | [] => []
  | t :: ts => t.dat ++ T.dats ts
end
theorem T.dats_next {ks : List T} {j : Nat} (h : j < ks.length) : T.dats (ks.take (j + 1)) = T.dats (ks.take j) ++ (ks[j]).dat := by
  induction ks generalizing j with
  | nil => simp at h
  | cons t r ih =>
    cases j with
    | zero => simp [T.dats]
    | succ j =>
      have := ih (j := j) (by simpa using h)
      simp only [List.take_succ_cons, T.dats, List.getElem_cons_succ, List.append_assoc] at *
      rw [this]
theorem T.dats_take (ks : List T) (j : Nat) : (T.dats (ks.take j)).length ≤ (T.dats ks).length := by
  induction ks generalizing j with
  | nil => simp [T.dats]
  | cons t r ih =>
    cases j with
    | zero => simp [T.dats]
    | succ j =>
      have := ih j
      simp only [List.take_succ_cons, T.dats, List.length_append]
      omega

def DatAt (t : T) : Prop := ∀ (l : List Int) (v : Value) (q : Q) (lo : Nat) (w w0 : World), w.ownsRow lo 5 1 v l.length (bs l) → w0.heap.size = lo → Below lo w0 w → TIn w0 t q → l.length + t.dat.length ≤ 1099511627776 →
  Calls Tryz.prog 83 #[v, q.val] w fun e w' => ∃ v', e = .returned v' ∧ w'.ownsRow lo 5 1 v' (l ++ t.dat).length (bs (l ++ t.dat)) ∧ Holds lo w w'

set_option maxRecDepth 20000 in
set_option maxHeartbeats 1600000 in
theorem specData : ∀ t : T, DatAt t := by
  intro t
  induction t using T.ind with
  | h k d ns ks ih =>
    intro l v q lo w w0 hv h0 hb hq hlen
    obtain ⟨i0, hi0, hz0, hz1, hz2⟩ := info_parts u8info
    have hlo : lo ≤ w.heap.size := by rw [← h0]; exact hb.size
    obtain ⟨A, c, A', c', A'', c'', ed, hc1, hc2, en, hc1', hc2', ec, hc1'', hc2''⟩ := hq.lens
    rw [TIn] at hq
    obtain ⟨hk, hdr, hn, qs, hkk, hks⟩ := hq
    rw [T.dat, List.length_append] at hlen
    obtain ⟨K, hK⟩ : ∃ K, ks.length = K := ⟨_, rfl⟩
    obtain ⟨D, hD⟩ : ∃ D, d.length = D := ⟨_, rfl⟩
    obtain ⟨N, hN⟩ : ∃ N, ns.length = N := ⟨_, rfl⟩
    rw [hD] at ed hc1 hlen
    rw [hN] at en
    rw [hK] at ec hc1''
    unfold maxLen at hc2 hc2''
    obtain ⟨wa, hwa, box, ba, hz⟩ := boxed w q 52
    rw [hk] at hwa box
    rw [ec] at hwa box
    rw [ed] at hwa box
    rw [en] at hwa box
    rw [show q.val = .agg #[.int .i64 k, .slice A D c, .slice A' N c', .slice A'' K c''] by rw [← hk, ← ed, ← en, ← ec]]
    rw [ec] at hkk
    rw [ed] at hdr
    have hva : wa.ownsRow lo 5 1 v l.length (bs l) := by rw [← hwa]; exact hv.alloc _
    have hba : Below lo w0 wa := hb.trans (ba.mono hlo)
    have hla : lo ≤ wa.heap.size := by omega
    have hda : Rd wa (.slice A D c) (bs d) := hdr.below (by rw [h0]; exact hba)
    have x1 := box.c1
    have hall : T.dat (.node k d ns ks) = d ++ T.dats ks := by rw [T.dat]
    have hlt2 : ∀ j, (T.dats (ks.take j)).length ≤ (T.dats ks).length := T.dats_take ks
    have HVA := hide hva
    have HDA := hide hda
    have HBOX := hide box
    have HKK := hide hkk
    have HKS := hide hks
    have HIH := hide ih
    have HKL := hide hK
    have HDL := hide hD
    have HALL := hide hall
    have HW0 := hide h0
    have HBA := hide hba
    have HLA := hide hla
    have HHW := hide (Holds.of_below ba hlo)
    have HLT2 := hide hlt2
    generalize hT : (T.dats ks).length = TT at *
    have HTT := hide hT
    clear box hkk hks ih hK hD hN hn ed en ec hk hc1' hc2' hall hva hda hdr h0 hba hb hv hlt2 hT ba
    go_enter Tryz.func83, Tryz.ntmps83
    go_wp2_with (at_builtin; refine wpList_app _ rfl (.tmp 6) (.tmp 8) _ rfl lo 5 i0 _ 1 Tryz.underlying36 hi0 hz0 hz1 hz2 rfl _ _ _ rfl HVA.out _ (bs d) rfl HDA.out (bs_one d) (by rw [bs_length, HDL.out]; simp only [maxLen]; omega) (by rw [bs_length, HDL.out]; omega) HLA.out ?_; intro v2 w2 own2 gr2)
    have hr2 := holds_row HVA.out gr2 HLA.out
    have o2 : w2.ownsRow lo 5 1 v2 (l ++ d ++ T.dats (ks.take 0)).length (bs (l ++ d ++ T.dats (ks.take 0))) := by
      have e0 : l ++ d ++ T.dats (ks.take 0) = l ++ d := by simp [T.dats]
      rw [e0]
      exact own_len (own_cells own2 (bs_append _ _).symm) (by rw [List.length_append, bs_length])
    have box2 := HBOX.out.holds hr2
    have x3 := box2.c3
    have HO2 := hide o2
    have HR2 := hide hr2
    have HB2 := hide box2
    clear own2 gr2 hr2 o2 box2 x1 hwa
    go_loopw [0, 5] (fun u i wr => ∃ j : Nat, j ≤ K ∧ i = .int .i64 j ∧ Hid (wr.ownsRow lo 5 1 u (l ++ d ++ T.dats (ks.take j)).length (bs (l ++ d ++ T.dats (ks.take j)))) ∧ Hid (Holds lo wa wr) ∧ C4 wr w.heap.size 52 (.int .i64 k) (.slice A D c) (.slice A' N c') (.slice A'' K c''))
      (fun _ i _ => K - (intOf i).toNat)
    case atStart => exact ⟨0, Nat.zero_le _, rfl, HO2, HR2, HB2.out⟩
    case round =>
      obtain ⟨j, hj, rfl, HOW, HHO, box⟩ := hrel
      have x3 := box.c3
      by_cases hlt : j < K
      · have hjk : j < ks.length := by rw [HKL.out]; exact hlt
        obtain ⟨q', hq', hqt⟩ := HKS.out.at_ j ks[j] (List.getElem?_eq_getElem hjk)
        obtain ⟨b3, off3, hA3, hb3, rng⟩ := HKK.out.get hq'
        subst hA3
        have hbw : Below lo w0 wr := HBA.out.trans HHO.out.below
        have rng2 := rangeAt_below rng (by rw [HW0.out]; exact hbw) hb3
        have hnext := T.dats_next hjk
        have hl2 := HLT2.out (j + 1)
        have hl3 := HLT2.out j
        have hcall := HIH.out ks[j] (List.getElem_mem hjk) (l ++ d ++ T.dats (ks.take j)) u0 q' lo wr w0 HOW.out HW0.out hbw hqt (by
          rw [hnext, List.length_append] at hl2
          simp only [List.length_append, HDL.out]
          omega)
        have HRNG := hide rng2
        have HC := hide hcall
        have HB := hide box
        have HNX := hide hnext
        have k1 : (j : Int) < (K : Int) := by omega
        clear rng rng2 hq' hqt hbw box hnext hb3 hcall hl2 hl3
        go_wp2_with ((with_reducible refine at_slot 22 ?_); refine wpList_load_mid rfl _ _ rfl b3 (off3 + j * 4) rfl _ _ HRNG.out Tryz.underlying52 rfl (by kernel_rfl) ?_)
        refine HC.out.mono ?_
        rintro e w3 ⟨v3, rfl, o3, h3⟩
        have HO3 : Hid (w3.ownsRow lo 5 1 v3 (l ++ d ++ T.dats (ks.take (j + 1))).length (bs (l ++ d ++ T.dats (ks.take (j + 1))))) := hide (by rw [HNX.out, ← List.append_assoc]; exact o3)
        have HH3 := hide h3
        clear o3 h3 x3
        go_wp2_with fail
        go_roundw
        case rel => exact ⟨j + 1, by omega, by go_num, HO3, hide (HHO.out.trans HH3.out), HB.out.holds HH3.out⟩
        case measure => simp [intOf]; omega
      · obtain rfl : j = K := by omega
        have e2 : ks.take j = ks := List.take_of_length_le (by rw [HKL.out]; omega)
        rw [e2] at HOW
        have HF : Hid (wr.ownsRow lo 5 1 u0 (l ++ T.dat (.node k d ns ks)).length (bs (l ++ T.dat (.node k d ns ks)))) := hide (by rw [HALL.out, ← List.append_assoc]; exact HOW.out)
        clear box e2 HOW
        go_wp2
        go_ret
        exact ⟨_, rfl, HF.out, HHW.out.trans HHO.out⟩

end Go.Proofs.YtmhapnlgakkljaaGreatDoor


/-
  The program's iterator over a tree's nodes.
-/
namespace Go.Proofs.YtmhapnlgakkljaaGreatDoor
open Go.RowKit Go.Shelf
set_option linter.unusedVariables false

mutual
/-- A tree's nodes, each with its steps and its name, a directory ahead of its kids. -/
def T.pre : T → Nat → List Int → List (Nat × List Int × T)
  | .node k d ns ks, s, nm => (s, nm, .node k d ns ks) :: T.pres ks ns (s + 1)
def T.pres : List T → List (List Int) → Nat → List (Nat × List Int × T)
  | [], _, _ => []
  | t :: ts, ns, s => t.pre s (ns.headD []) ++ T.pres ts ns.tail s
end
theorem T.pres_next {ks : List T} {j : Nat} (h : j < ks.length) (ns : List (List Int)) (s : Nat) : T.pres (ks.take (j + 1)) ns s = T.pres (ks.take j) ns s ++ (ks[j]).pre s (ns.getD j []) := by
  induction ks generalizing j ns with
  | nil => simp at h
  | cons t r ih =>
    cases j with
    | zero => cases ns <;> simp [T.pres]
    | succ j =>
      have h2 := ih (j := j) (by simpa using h) ns.tail
      have h3 : ns.tail.getD j [] = ns.getD (j + 1) [] := by cases ns <;> simp [List.getD]
      rw [List.take_succ_cons, T.pres, h2, h3, List.take_succ_cons, T.pres, List.append_assoc]
      rfl
theorem T.pres_take (ks : List T) (j : Nat) (ns : List (List Int)) (s : Nat) : T.pres (ks.take j) ns s <+: T.pres ks ns s := by
  induction ks generalizing j ns with
  | nil => simp [T.pres]
  | cons t r ih =>
    cases j with
    | zero => simp [T.pres]
    | succ j =>
      rw [List.take_succ_cons, T.pres, T.pres]
      exact (List.prefix_append_right_inj _).2 (ih j ns.tail)

/-- A node as the iterator hands it out, in what lay as it began. -/
structure Nd (w0 : World) where
  s : Nat
  nm : List Int
  t : T
  v : Value
  q : Q
  hv : Rd w0 v (bs nm)
  hB : Byt nm
  hq : TIn w0 t q
  ht : t.Byts
def Nd.val {w0 : World} (x : Nd w0) : Value := .agg #[.int .i64 x.s, x.v, .int .i64 x.q.k, x.q.d, x.q.n, x.q.c]
def Nd.key {w0 : World} (x : Nd w0) : Nat × List Int × T := (x.s, x.nm, x.t)
def Nd.good {w0 : World} (x : Nd w0) : Prop := x.s < 4 ∧ x.t.nodeOk = true

/-- A block of a node's six cells. -/
def C6 (w : World) (g : Nat) (a b c d e f : Value) : Prop := w.heap[g]? = some (.cells #[a, b, c, d, e, f] 154 (0, 0))
section
variable {w w' : World} {g : Nat} {a b c d e f : Value}
theorem C6.lt (h : C6 w g a b c d e f) : g < w.heap.size := (Array.getElem?_eq_some_iff.1 h).1
theorem C6.c0 (h : C6 w g a b c d e f) : w.cell? ⟨g, 0, none⟩ = some a := by rw [cell_of_row w g 0 _ _ (0, 0) h]; rfl
theorem C6.c1 (h : C6 w g a b c d e f) : w.cell? ⟨g, 1, none⟩ = some b := by rw [cell_of_row w g 1 _ _ (0, 0) h]; rfl
theorem C6.c2 (h : C6 w g a b c d e f) : w.cell? ⟨g, 2, none⟩ = some c := by rw [cell_of_row w g 2 _ _ (0, 0) h]; rfl
theorem C6.c3 (h : C6 w g a b c d e f) : w.cell? ⟨g, 3, none⟩ = some d := by rw [cell_of_row w g 3 _ _ (0, 0) h]; rfl
theorem C6.c4 (h : C6 w g a b c d e f) : w.cell? ⟨g, 4, none⟩ = some e := by rw [cell_of_row w g 4 _ _ (0, 0) h]; rfl
theorem C6.c5 (h : C6 w g a b c d e f) : w.cell? ⟨g, 5, none⟩ = some f := by rw [cell_of_row w g 5 _ _ (0, 0) h]; rfl
theorem C6.step (h : C6 w g a b c d e f) (hb : Below w.heap.size w w') : C6 w' g a b c d e f := (hb.block g h.lt).trans h
theorem C6.holds {n₀ : Nat} (h : C6 w g a b c d e f) (hh : Holds n₀ w w') : C6 w' g a b c d e f := hh.rows g _ _ _ h (.inl rfl)
end
theorem boxed6 (w : World) (a b c d e f : Value) : ∃ wa, w.alloc (.cells #[a, b, c, d, e, f] 154) = wa ∧ C6 wa w.heap.size a b c d e f ∧ Below w.heap.size w wa ∧ wa.heap.size = w.heap.size + 1 :=
  ⟨_, rfl, heap_alloc_new w _, (Below.refl _ _).alloc (Nat.le_refl _) _, by simp⟩

theorem YieldAt.any {m m' : Nat} {P : Program} {l : Nat} {args : Array Value} {W : World} {R : Ending → World → Prop} (h : YieldAt Fence.wide m P l args W R) : YieldAt Fence.wide m' P l args W R := by
  obtain ⟨fn, tmps, assign, body, hy, h1, h2⟩ := h
  exact ⟨fn, tmps, assign, body, hy, h1, fun c cs _ => h2 c cs (fun d h => by cases h)⟩

theorem TIn.one {w : World} {t : T} {q : Q} (h : TIn w t q) : (#[.int .i64 q.k, q.d, q.n, q.c] : Array Value).all (·.oneCell') = true := by
  obtain ⟨k, d, ns, ks⟩ := t
  obtain ⟨A, c, A', c', A'', c'', e, _, _, e', _, _, e'', _, _⟩ := h.lens
  rw [e, e', e'']
  simp [Value.oneCell']
theorem TIn.form {w : World} {t : T} {q : Q} (h : TIn w t q) : ∃ A n c A' n' c' A'' n'' c'', q.d = .slice A n c ∧ q.n = .slice A' n' c' ∧ q.c = .slice A'' n'' c'' := by
  obtain ⟨k, d, ns, ks⟩ := t
  obtain ⟨A, c, A', c', A'', c'', e, _, _, e', _, _, e'', _, _⟩ := h.lens
  exact ⟨_, _, _, _, _, _, _, _, _, e, e', e''⟩
theorem TIn.one6 {w : World} {t : T} {q : Q} (h : TIn w t q) {l : List Value} {v : Value} (hv : Rd w v l) (s : Int) : (#[.int .i64 s, v, .int .i64 q.k, q.d, q.n, q.c] : Array Value).all (·.oneCell') = true := by
  obtain ⟨k, d, ns, ks⟩ := t
  obtain ⟨A, c, A', c', A'', c'', e, _, _, e', _, _, e'', _, _⟩ := h.lens
  obtain ⟨B, cv, ev, _⟩ := hv
  rw [e, e', e'', ev]
  simp [Value.oneCell']
theorem C4.range {w : World} {g : Nat} {t : TypeId} {a b c d : Value} (h : C4 w g t a b c d) : w.rangeAt g 0 [a, b, c, d] := fun j v hv => by
  rw [Nat.zero_add]
  match j, hv with
  | 0, hv => simp at hv; subst hv; exact h.c0
  | 1, hv => simp at hv; subst hv; exact h.c1
  | 2, hv => simp at hv; subst hv; exact h.c2
  | 3, hv => simp at hv; subst hv; exact h.c3
theorem C6.range {w : World} {g : Nat} {a b c d e f : Value} (h : C6 w g a b c d e f) : w.rangeAt g 0 [a, b, c, d, e, f] := fun j v hv => by
  rw [Nat.zero_add]
  match j, hv with
  | 0, hv => simp at hv; subst hv; exact h.c0
  | 1, hv => simp at hv; subst hv; exact h.c1
  | 2, hv => simp at hv; subst hv; exact h.c2
  | 3, hv => simp at hv; subst hv; exact h.c3
  | 4, hv => simp at hv; subst hv; exact h.c4
  | 5, hv => simp at hv; subst hv; exact h.c5
theorem C6.fz {w : World} {g : Nat} {a b c d e f : Value} (h : C6 w g a b c d e f) (j : Nat) : w.frozen? ⟨g, j, none⟩ = false := frozen_of_row w g j _ _ h
theorem C6.there {w : World} {g : Nat} {a b c d e f : Value} (h : C6 w g a b c d e f) : w.there g 0 6 := fun j hj => by
  refine ⟨?_, h.fz _⟩
  rw [Nat.zero_add]
  rcases (by omega : j = 0 ∨ j = 1 ∨ j = 2 ∨ j = 3 ∨ j = 4 ∨ j = 5) with rfl | rfl | rfl | rfl | rfl | rfl
  · rw [h.c0]; rfl
  · rw [h.c1]; rfl
  · rw [h.c2]; rfl
  · rw [h.c3]; rfl
  · rw [h.c4]; rfl
  · rw [h.c5]; rfl
theorem C6.all {w : World} {g : Nat} {a b c d e f : Value} (h : C6 w g a b c d e f) (x0 x1 x2 x3 x4 x5 : Value) : C6 (w.setCells g 0 [x0, x1, x2, x3, x4, x5]) g x0 x1 x2 x3 x4 x5 := by
  have h0 : C6 (w.setCell ⟨g, 0, none⟩ x0) g x0 b c d e f := heap_setCell_same w g 0 _ _ _ h
  have h1 : C6 ((w.setCell ⟨g, 0, none⟩ x0).setCell ⟨g, 1, none⟩ x1) g x0 x1 c d e f := heap_setCell_same _ g 1 _ _ _ h0
  have h2 : C6 (((w.setCell ⟨g, 0, none⟩ x0).setCell ⟨g, 1, none⟩ x1).setCell ⟨g, 2, none⟩ x2) g x0 x1 x2 d e f := heap_setCell_same _ g 2 _ _ _ h1
  have h3 : C6 ((((w.setCell ⟨g, 0, none⟩ x0).setCell ⟨g, 1, none⟩ x1).setCell ⟨g, 2, none⟩ x2).setCell ⟨g, 3, none⟩ x3) g x0 x1 x2 x3 e f := heap_setCell_same _ g 3 _ _ _ h2
  have h4 : C6 (((((w.setCell ⟨g, 0, none⟩ x0).setCell ⟨g, 1, none⟩ x1).setCell ⟨g, 2, none⟩ x2).setCell ⟨g, 3, none⟩ x3).setCell ⟨g, 4, none⟩ x4) g x0 x1 x2 x3 x4 f := heap_setCell_same _ g 4 _ _ _ h3
  exact heap_setCell_same _ g 5 _ _ _ h4
/-- A block made and filled: only that is new. -/
theorem made4 (w : World) (t : TypeId) (a b c d x0 x1 x2 x3 : Value) : ∃ wz, w.alloc (.cells #[a, b, c, d] t) = wz ∧ wz.there w.heap.size 0 4 ∧ ∃ wk, wz.setCells w.heap.size 0 [x0, x1, x2, x3] = wk ∧ C4 wk w.heap.size t x0 x1 x2 x3 ∧ Below w.heap.size w wk ∧ wk.heap.size = w.heap.size + 1 := by
  have h : C4 (w.alloc (.cells #[a, b, c, d] t)) w.heap.size t a b c d := heap_alloc_new w _
  refine ⟨_, rfl, h.there, _, rfl, h.all _ _ _ _, ?_, by simp [World.setCells]⟩
  have h0 := (Below.refl w.heap.size w).alloc (Nat.le_refl _) (Obj.cells #[a, b, c, d] t)
  exact (((h0.setCell (p := ⟨w.heap.size, 0, none⟩) (Nat.le_refl _) x0).setCell (p := ⟨w.heap.size, 1, none⟩) (Nat.le_refl _) x1).setCell (p := ⟨w.heap.size, 2, none⟩) (Nat.le_refl _) x2).setCell (p := ⟨w.heap.size, 3, none⟩) (Nat.le_refl _) x3
/-- What the iterator does with its rounds. -/
def ProdAt (t : T) : Prop := ∀ (w0 : World) (x : Nd w0) (l : Nat) (J Jx : List (Nd w0) → World → Prop) (full : List (Nat × List Int × T)),
  (∀ pre W W', J pre W → Below W.heap.size W W' → J pre W') →
  (∀ pre W, J pre W → ∀ y ∈ pre, y.good) →
  (∀ pre (y : Nd w0) W, J pre W → pre.map Nd.key ++ [y.key] <+: full → Below w0.heap.size w0 W → YieldAt Fence.wide 0 Tryz.prog l #[y.val] W fun e W' =>
    (e = .returned (.bool true) ∧ J (pre ++ [y]) W' ∧ Holds w0.heap.size W W') ∨ (e = .returned (.bool false) ∧ Jx (pre ++ [y]) W')) →
  x.t = t → ∀ (pre : List (Nd w0)) (W : World), J pre W → Below w0.heap.size w0 W → pre.map Nd.key ++ t.pre x.s x.nm <+: full →
  Calls Tryz.prog 157 #[x.val, .func (.yield l) #[] #[]] W fun e W' =>
    (e = .returned (.bool true) ∧ (∃ xs : List (Nd w0), xs.map Nd.key = t.pre x.s x.nm ∧ J (pre ++ xs) W') ∧ Holds w0.heap.size W W') ∨
    (e = .returned (.bool false) ∧ ∃ xs : List (Nd w0), xs.map Nd.key <+: t.pre x.s x.nm ∧ Jx (pre ++ xs) W')

set_option maxRecDepth 20000 in
set_option maxHeartbeats 600000 in
theorem produce : ∀ t : T, ProdAt t := by
  intro t
  induction t using T.ind with
  | h k d ns ks ih =>
    intro w0 x l J Jx full hJ hG hY hx pre W hj hw hfull
    have hq := x.hq
    have htB := x.ht
    have hkey : x.key = (x.s, x.nm, .node k d ns ks) := by rw [Nd.key, hx]
    have hgood : ∀ W, J (pre ++ [x]) W → x.s < 4 ∧ (T.node k d ns ks).nodeOk = true := fun W h => by
      have h2 := hG _ W h x (by simp)
      rwa [Nd.good, hx] at h2
    rw [hx] at hq htB
    obtain ⟨s, hs⟩ : ∃ s, x.s = s := ⟨_, rfl⟩
    obtain ⟨v, hv⟩ : ∃ v, x.v = v := ⟨_, rfl⟩
    obtain ⟨nm, hnm⟩ : ∃ nm, x.nm = nm := ⟨_, rfl⟩
    rw [hs] at hgood
    rw [hs, hnm] at hfull hkey ⊢
    obtain ⟨A, c, A', c', A'', c'', ed, hc1, hc2, en, hc1', hc2', ec, hc1'', hc2''⟩ := hq.lens
    rw [TIn] at hq
    obtain ⟨hk, _, hn, qs, hkk, hks⟩ := hq
    rw [T.Byts] at htB
    obtain ⟨_, hBn, hBk⟩ := htB
    obtain ⟨N, hN⟩ : ∃ N, ns.length = N := ⟨_, rfl⟩
    obtain ⟨K, hK⟩ : ∃ K, ks.length = K := ⟨_, rfl⟩
    obtain ⟨D, hD⟩ : ∃ D, d.length = D := ⟨_, rfl⟩
    rw [hD] at ed
    rw [hN] at en
    rw [hK] at ec hc1''
    rw [en] at hn
    rw [ec] at hkk
    unfold maxLen at hc2' hc2''
    have hval : x.val = .agg #[.int .i64 s, v, .int .i64 k, .slice A D c, .slice A' N c', .slice A'' K c''] := by rw [Nd.val, hs, hv, hk, ed, en, ec]
    obtain ⟨wa, hwa, box, ba, hz⟩ := boxed6 W (.int .i64 s) v (.int .i64 k) (.slice A D c) (.slice A' N c') (.slice A'' K c'')
    have hja := hJ pre W wa hj ba
    have hwa0 : Below w0.heap.size w0 wa := hw.trans (ba.mono hw.size)
    have hba := Holds.of_below ba hw.size
    rw [T.pre] at hfull ⊢
    have hY1 := hY pre x wa hja (by rw [hkey]; exact ((List.prefix_append_right_inj _).2 ⟨_, rfl⟩).trans hfull) hwa0
    rw [hval] at hY1 ⊢
    obtain ⟨fn, tmps, assign, body, hy, hR⟩ := YieldAt.any (m' := 2) hY1
    have HBOX := hide box
    have x0 := box.c0
    have x1 := box.c1
    have x2 := box.c2
    have x3 := box.c3
    have x4 := box.c4
    have x5 := box.c5
    have HHY := hide hY
    have HIH := hide ih
    have HHJ := hide hJ
    have HHG := hide hG
    have HGO := hide hgood
    have HKEY := hide hkey
    have HKK := hide hkk
    have HKS := hide hks
    have HNN := hide hn
    have HBN := hide hBn
    have HBKK := hide hBk
    have HNL := hide hN
    have HKL := hide hK
    have HFULL := hide hfull
    have HBA := hide hba
    have HBW := hide hwa0
    have HV := hide hv
    clear hv
    clear box ih hY hkk hks hn hBn hBk hN hK hD hY1 hJ hG hgood hkey hfull hba hwa0 hw hj hja ba hs hnm hx hk ed en ec hval
    go_enter Tryz.func157, Tryz.ntmps157
    go_upto_region 1 with (fail)
    refine (wpIn_wide (n := 3)).1 ?_
    gi_wp2_with (refine hR.mono ?_; rintro e W2 (⟨rfl, hJ2, hb2⟩ | ⟨rfl, hJx2⟩))
    · obtain ⟨hs4, hno⟩ := HGO.out _ hJ2
      have hNK : 0 < K → N = K := fun h => by
        rw [T.nodeOk, HNL.out, HKL.out] at hno
        split at hno
        · simp at hno; omega
        · simp at hno; omega
      have HW2 := hide (HBW.out.trans hb2.below)
      have HH2 := hide hb2
      have HJ2 := hide hJ2
      have HB2 := hide (HBOX.out.holds hb2)
      have x5 := HB2.out.c5
      have HNK := hide hNK
      clear hy hR hno hb2 hJ2 hNK x0 x1 x2 x3 x4 hwa
      go_wp2
      go_loopw [16] (fun i wr => ∃ j : Nat, j ≤ K ∧ i = .int .i64 j ∧ Hid (∃ ys : List (Nd w0), ys.map Nd.key = T.pres (ks.take j) ns (s + 1) ∧ J (pre ++ x :: ys) wr) ∧ Hid (Holds w0.heap.size wa wr) ∧ C6 wr W.heap.size (.int .i64 s) v (.int .i64 k) (.slice A D c) (.slice A' N c') (.slice A'' K c''))
        (fun i _ => K - (intOf i).toNat)
      case atStart => exact ⟨0, Nat.zero_le _, rfl, hide ⟨[], by simp [T.pres], HJ2.out⟩, HH2, HB2.out⟩
      case round =>
        obtain ⟨j, hj, rfl, HYS, HH, box⟩ := hrel
        by_cases hlt : j < K
        · have hjk : j < ks.length := by rw [HKL.out]; exact hlt
          obtain rfl := HNK.out (by omega)
          have hjn : j < ns.length := by rw [HNL.out]; exact hlt
          obtain ⟨q', hq', hqt⟩ := HKS.out.at_ j ks[j] (List.getElem?_eq_getElem hjk)
          obtain ⟨b3, off3, hA3, hb3, rng⟩ := HKK.out.get hq'
          subst hA3
          have hbw : Below w0.heap.size w0 wr := HBW.out.trans HH.out.below
          have rng2 := rangeAt_below rng hbw hb3
          obtain ⟨b, off, u, hA', hblt, cu, ru⟩ := HNN.out.get hjn
          subst hA'
          have q1 := (hbw.cell (p := ⟨b, off + j, none⟩) hblt).trans cu
          have k1 : (j : Int) < (N : Int) := by omega
          have k0 : (0 : Int) ≤ (j : Int) := by omega
          have k2 : (j : Int).toNat = j := by omega
          obtain ⟨qk, qd, qn, qc⟩ := q'
          obtain ⟨A1, n1, c1, A2, n2, c2, A3, n3, c3, hqd, hqn, hqc⟩ := hqt.form
          obtain ⟨A4, cap4, hu, hu1, hu2, hu3⟩ := id ru
          dsimp only at hqd hqn hqc
          subst hqd hqn hqc hu
          obtain ⟨L4, hL4⟩ : ∃ L4, (bs (ns.getD j [])).length = L4 := ⟨_, rfl⟩
          rw [hL4] at q1 ru
          dsimp only at rng2
          have HRNG := hide rng2
          have HBOXR := hide box
          have HQ1 := hide q1
          have HBWR := hide hbw
          have HRU := hide ru
          have HQT := hide hqt
          have HQQ := hide hq'
          obtain ⟨wz, hwz, hth4, wk, hwk, kid, bk, zk⟩ := made4 wr 52 (.int .i64 0) (.slice none 0 0) (.slice none 0 0) (.slice none 0 0) (.int .i64 qk) (.slice A1 n1 c1) (.slice A2 n2 c2) (.slice A3 n3 c3)
          have hone := hqt.one
          have hone6 := hqt.one6 ru ((s + 1 : Nat) : Int)
          rw [← hwz] at hth4
          have HTH4 := hide hth4
          have HONE := hide hone
          have HONE6 := hide hone6
          have HWK := hide hwk
          have HWZ := hide hwz
          have HKID := hide kid
          have HBK := hide bk
          have HZK := hide zk
          clear box rng rng2 q1 cu ru hqt hq' hbw x5 hth4 hone hone6 hwk hwz kid bk zk
          go_wp2_with (first
            | ((with_reducible refine at_slot 20 ?_); refine wpList_load_mid rfl _ _ rfl b3 (off3 + j * 4) rfl _ _ HRNG.out Tryz.underlying52 rfl (by kernel_rfl) ?_)
            | ((with_reducible refine at_none ?_); refine wpList_store_mid rfl _ _ _ rfl wr.heap.size 0 #[.int .i64 qk, .slice A1 n1 c1, .slice A2 n2 c2, .slice A3 n3 c3] rfl rfl HTH4.out (by kernel_rfl) HONE.out ?_; rw [HWZ.out]; change wpList _ _ _ _ _ (wz.setCells wr.heap.size 0 [.int .i64 qk, .slice A1 n1 c1, .slice A2 n2 c2, .slice A3 n3 c3]); rw [HWK.out]))
          have hq1 := HQ1.out
          have c0 := (HBOXR.out.step HBK.out).c0
          have c4 := (HBOXR.out.step HBK.out).c4
          have q1 : wk.cell? ⟨b, off + j, none⟩ = some (.slice A4 L4 cap4) := (HBK.out.cell (p := ⟨b, off + j, none⟩) (Nat.lt_of_lt_of_le hblt HBWR.out.size)).trans hq1
          have y0 := HKID.out.c0
          have y1 := HKID.out.c1
          have y2 := HKID.out.c2
          have y3 := HKID.out.c3
          have hwr : IntKind.i64.wrap ((s : Int) + 1) = (s : Int) + 1 := IntWalk.i64_in _ (by omega)
          clear hq1
          go_region_held3 (fun w' => w'.cell? ⟨W.heap.size, 0, none⟩ = some (.int .i64 s) ∧ w'.cell? ⟨W.heap.size, 4, none⟩ = some (.slice (some ⟨b, off, none⟩) N c') ∧ w'.cell? ⟨b, off + j, none⟩ = some (.slice A4 L4 cap4) ∧ w'.cell? ⟨wr.heap.size, 0, none⟩ = some (.int .i64 qk) ∧ w'.cell? ⟨wr.heap.size, 1, none⟩ = some (.slice A1 n1 c1) ∧ w'.cell? ⟨wr.heap.size, 2, none⟩ = some (.slice A2 n2 c2) ∧ w'.cell? ⟨wr.heap.size, 3, none⟩ = some (.slice A3 n3 c3))
            (first | go_keep) (first | fail)
          obtain ⟨wn, hwn, nbox, bn, zn⟩ := boxed6 wk (.int .i64 ((s : Int) + 1)) (.slice A4 L4 cap4) (.int .i64 qk) (.slice A1 n1 c1) (.slice A2 n2 c2) (.slice A3 n3 c3)
          rw [hwn]
          obtain ⟨wm, hwm⟩ : ∃ wm, wn.drew = wm := ⟨_, rfl⟩
          have bm : Below wr.heap.size wr wm := by rw [← hwm]; exact (HBK.out.trans (bn.mono HBK.out.size)).drew
          have mbox : C6 wm wk.heap.size (.int .i64 ((s : Int) + 1)) (.slice A4 L4 cap4) (.int .i64 qk) (.slice A1 n1 c1) (.slice A2 n2 c2) (.slice A3 n3 c3) := by rw [← hwm]; exact nbox
          rw [hwm]
          have obox := HBOXR.out.step bm
          have hbm : Below w0.heap.size w0 wm := HBWR.out.trans (bm.mono HBWR.out.size)
          have hhm : Holds w0.heap.size wa wm := HH.out.trans (Holds.of_below bm HBWR.out.size)
          obtain ⟨ys, hys, hJys⟩ := HYS.out
          have hJm := HHJ.out _ wr wm hJys bm
          obtain ⟨y, hy⟩ : ∃ y : Nd w0, y = ⟨s + 1, ns.getD j [], ks[j], .slice A4 L4 cap4, ⟨qk, .slice A1 n1 c1, .slice A2 n2 c2, .slice A3 n3 c3⟩, HRU.out, HBN.out _ (by simp [List.getD, List.getElem?_eq_getElem hjn]), HQT.out, T.Bytss.mem HBKK.out _ (List.getElem_mem hjk)⟩ := ⟨_, rfl⟩
          have hyv : y.val = .agg #[.int .i64 ((s : Int) + 1), .slice A4 L4 cap4, .int .i64 qk, .slice A1 n1 c1, .slice A2 n2 c2, .slice A3 n3 c3] := by rw [hy]; rfl
          have hfj : (pre ++ x :: ys).map Nd.key ++ (ks[j]).pre (s + 1) (ns.getD j []) <+: full := by
            rw [List.map_append, List.map_cons, HKEY.out, hys, List.append_assoc, List.cons_append, ← T.pres_next hjk]
            exact ((List.prefix_append_right_inj _).2 ((List.prefix_cons_inj _).2 (T.pres_take ks (j + 1) ns (s + 1)))).trans HFULL.out
          have hcall := HIH.out ks[j] (List.getElem_mem hjk) w0 y l J Jx full HHJ.out HHG.out HHY.out (by rw [hy]) (pre ++ x :: ys) wm hJm hbm (by rw [hy]; exact hfj)
          rw [hyv] at hcall
          rw [show y.s = s + 1 by rw [hy], show y.nm = ns.getD j [] by rw [hy]] at hcall
          have hnx := T.pres_next hjk ns (s + 1)
          have x0 := mbox.c0
          have x1 := mbox.c1
          have x2 := mbox.c2
          have x3 := mbox.c3
          have x4 := mbox.c4
          have x5 := mbox.c5
          have HCALL := hide hcall
          have HOB := hide obox
          have HHM := hide hhm
          have HYS2 := hide hys
          have HNX := hide hnx
          have HPT := hide (T.pres_take ks (j + 1) ns (s + 1))
          clear hcall obox hhm hys hnx hwn nbox bn zn hwm bm mbox hbm hJys hJm hy hyv hfj c0 c4 q1 y0 y1 y2 y3 hwr
          go_wp2_with fail
          refine HCALL.out.mono ?_
          rintro e w5 (⟨rfl, ⟨xs, hxs, hJ5⟩, hh5⟩ | ⟨rfl, xs, hxs, hJx5⟩)
          · have HXS := hide hxs
            have HJ5 := hide hJ5
            have HH5 := hide hh5
            clear hxs hJ5 hh5 x0 x1 x2 x3 x4 x5
            go_wp2_with fail
            go_roundw
            case rel => exact ⟨j + 1, by omega, by go_num, hide ⟨ys ++ xs, by rw [List.map_append, HYS2.out, HXS.out, HNX.out], by rw [← List.cons_append, ← List.append_assoc]; exact HJ5.out⟩, hide (HHM.out.trans HH5.out), HOB.out.holds HH5.out⟩
            case measure => simp [intOf]; omega
          · have HXS := hide hxs
            have HJ5 := hide hJx5
            clear hxs hJx5 x0 x1 x2 x3 x4 x5
            go_wp2_with fail
            go_ret
            refine .inr ⟨rfl, x :: (ys ++ xs), ?_, by rw [← List.cons_append, ← List.append_assoc]; exact HJ5.out⟩
            rw [List.map_cons, List.map_append, HKEY.out, HYS2.out]
            refine (List.prefix_cons_inj _).2 (List.IsPrefix.trans ?_ HPT.out)
            rw [HNX.out]
            exact (List.prefix_append_right_inj _).2 HXS.out
        · obtain rfl : j = K := by omega
          have e2 : ks.take j = ks := List.take_of_length_le (by rw [HKL.out]; omega)
          rw [e2] at HYS
          clear box x5
          go_wp2
          go_ret
          obtain ⟨ys, h1, h2⟩ := HYS.out
          exact .inl ⟨rfl, ⟨x :: ys, by rw [List.map_cons, HKEY.out, h1], h2⟩, HBA.out.trans HH.out⟩
    · clear x0 x1 x2 x3 x4 x5 hy hR hwa
      go_wp2
      go_ret
      exact .inr ⟨rfl, [x], by rw [List.map_cons, HKEY.out]; exact ⟨_, rfl⟩, hJx2⟩

end Go.Proofs.YtmhapnlgakkljaaGreatDoor


/-
  The program's Sha256.
-/
namespace Go.Proofs.YtmhapnlgakkljaaGreatDoor
open Go.RowKit
set_option linter.unusedVariables false

/-- What comes of the three calls, whatever the two slices are called. -/
theorem shaEnd (l : List Int) (hB : Byt l) (n : Nat) (hn : l.length / 64 = n) (s1 s2 : S8) (m : Nat) (h1 : hashN S0 (l.take (64 * n)) n = s1) (hm : (l.drop (64 * n) ++ tailB l.length).length = 64 * m) (h2 : hashN s1 (l.drop (64 * n) ++ tailB l.length) m = s2) :
    shaL l = outB s2.list := by
  subst hn h1 h2
  rw [shaL_parts, hm]
  congr 3
  omega

set_option maxRecDepth 20000 in
set_option maxHeartbeats 3200000 in
theorem implShaIn (l : List Int) (hB : Byt l) (v : Value) (w : World) (hv : Rd w v (bs l)) (hl : l.length ≤ 100000) (hT : Tab w) :
    Calls Tryz.prog 162 #[v] w fun e w' => ∃ v', e = .returned v' ∧ Own 5 w.heap.size w'.heap.size w' v' (bs (shaL l)) ∧ Below w.heap.size w w' := by
  obtain ⟨A, c, hV, hc1, hc2, hrd⟩ := id hv
  rw [bs_length] at *
  unfold maxLen at hc2
  subst hV
  obtain ⟨n, hn⟩ : ∃ n, l.length / 64 = n := ⟨_, rfl⟩
  obtain ⟨m, hm⟩ : ∃ m, (l.drop (64 * n) ++ tailB l.length).length = 64 * m := ⟨(l.drop (64 * n) ++ tailB l.length).length / 64, by
    have := pad_mod l.length
    rw [List.length_append, List.length_drop]
    omega⟩
  have hmb : m ≤ 10 := by
    have := pad_le l.length
    rw [List.length_append, List.length_drop] at hm
    omega
  obtain ⟨s1, h1⟩ : ∃ s1, hashN S0 (l.take (64 * n)) n = s1 := ⟨_, rfl⟩
  have hs1 : s1.Ok := by rw [← h1]; exact hashN_ok S0_ok _ _
  obtain ⟨s2, h2⟩ : ∃ s2, hashN s1 (l.drop (64 * n) ++ tailB l.length) m = s2 := ⟨_, rfl⟩
  have hs2 : s2.Ok := by rw [← h2]; exact hashN_ok hs1 _ _
  rw [shaEnd l hB n hn s1 s2 m h1 hm h2]
  have hz : zpad (l.drop (64 * n)).length = zpad l.length := by rw [← hn]; exact zpad_rest l
  -- the two slices
  have hA : ∀ v1 W, Rd w v1 (bs (l.take (64 * n))) → At W W.heap.size.pred 191 (wd S0.list) → True := fun _ _ _ _ => trivial
  clear hA
  have ht : (l.take (64 * n)).length = 64 * n := by rw [List.length_take]; omega
  have hd : (l.drop (64 * n)).length = l.length - 64 * n := List.length_drop
  have first : ∀ (v1 : Value) (g : Nat) (w1 : World), Rd w v1 (bs (l.take (64 * n))) → Below w.heap.size w w1 → w.heap.size ≤ g → At w1 g 191 (wd S0.list) →
      Calls Tryz.prog 182 #[.pointer (some ⟨g, 0, none⟩), v1] w1 fun e w2 => (∃ v, e = .returned v) ∧ At w2 g 191 (wd s1.list) ∧ Outside g (g + 1) w1 w2 := fun v1 g w1 hr hb hg hat => by
    have h := mixAll (l.take (64 * n)) (hB.take _) n ht (by omega) S0 S0_ok g v1 w1 (fun W hO => hr.far hb hO hg) hat (hT.step hb) (Nat.lt_of_lt_of_le hT.lt hg)
    rw [h1] at h
    exact h
  have second : ∀ (v2 : Value) (q : Int) (W : World), q = (l.length : Int) → Rd W v2 (bs (l.drop (64 * n))) →
      Calls Tryz.prog 183 #[v2, .int .i64 q] W fun e w' => ∃ v', e = .returned v' ∧ w'.ownsRow W.heap.size 5 1 v' (64 * m) (bs (l.drop (64 * n) ++ tailB l.length)) ∧ Below W.heap.size W w' := fun v2 q W hq hr => by
    subst hq
    have h := padded (l.drop (64 * n)) v2 l.length W hr hl (by rw [hd]; omega) hz
    rw [hm] at h
    exact h
  have third : ∀ (v3 : Value) (g lo : Nat) (W : World), W.ownsRow lo 5 1 v3 (64 * m) (bs (l.drop (64 * n) ++ tailB l.length)) → g < lo → At W g 191 (wd s1.list) → Tab W → w.heap.size ≤ g →
      Calls Tryz.prog 182 #[.pointer (some ⟨g, 0, none⟩), v3] W fun e w2 => (∃ v, e = .returned v) ∧ At w2 g 191 (wd s2.list) ∧ Outside g (g + 1) W w2 := fun v3 g lo W ho hlo hat hT2 hg => by
    have h := mixAll (l.drop (64 * n) ++ tailB l.length) ((hB.drop _).app (tailB_byt _)) m hm (by omega) s1 hs1 g v3 W
      (fun W' hO => ((Own.of ho (by rw [bs_length, hm])).outside hO (.inr hlo)).rd) hat hT2 (Nat.lt_of_lt_of_le hT.lt hg)
    rw [h2] at h
    exact h
  have last : ∀ (g : Nat) (W : World), At W g 191 (wd s2.list) →
      Calls Tryz.prog 184 #[.pointer (some ⟨g, 0, none⟩)] W fun e w' => ∃ v', e = .returned v' ∧ Own 5 W.heap.size w'.heap.size w' v' (bs (outB s2.list)) ∧ Below W.heap.size W w' := fun g W hat =>
    hashSum s2.list rfl (S8.list_32 hs2) g W hat
  have HT := hide hT
  have hdiv : (l.length : Int) / 64 * 64 = ((64 * n : Nat) : Int) := by omega
  have H1 : Hid (∀ k, k = 64 * n → Rd w (.slice A k c) (bs (l.take (64 * n)))) := hide (fun k hk => by
    subst hk
    cases A with
    | none =>
      have h0 : l.length = 0 := by
        rcases Nat.eq_zero_or_pos l.length with h | h
        · exact h
        · obtain ⟨b, off, hA, _⟩ := hrd h
          cases hA
      have e : l.take (64 * n) = [] := by rw [List.eq_nil_of_length_eq_zero h0, List.take_nil]
      rw [e]
      exact Rd.empty (by omega) (by unfold maxLen; omega)
    | some a =>
      rcases Nat.eq_zero_or_pos l.length with h | h
      · have e : l.take (64 * n) = [] := by rw [List.eq_nil_of_length_eq_zero h, List.take_nil]
        rw [e]
        exact Rd.empty (by omega) (by unfold maxLen; omega)
      · obtain ⟨b, off, hA, hblt, hcell⟩ := hrd h
        cases hA
        have hp := Rd.part hcell hblt (k := 0) (n := 64 * n) (by omega) hc1 (by unfold maxLen; omega) rfl
        simpa using hp)
  have H2 : Hid (∀ A2 k c2, k = l.length - 64 * n → (k = 0 ∨ ∃ b off, A = some ⟨b, off, none⟩ ∧ A2 = some ⟨b, off + 64 * n, none⟩) → c2 = c - 64 * n → Rd w (.slice A2 k c2) (bs (l.drop (64 * n)))) := hide (fun A2 k c2 hk hh hc => by
    have e : (l.drop (64 * n)).take (l.length - 64 * n) = l.drop (64 * n) := List.take_of_length_le (by rw [List.length_drop]; omega)
    rcases Nat.eq_zero_or_pos k with h0 | h0
    · have e0 : l.drop (64 * n) = [] := List.drop_eq_nil_of_le (by omega)
      rw [e0]
      exact Rd.empty h0 (by unfold maxLen; omega)
    · rcases hh with h | ⟨b, off, rfl, rfl⟩
      · omega
      · obtain ⟨b2, off2, hA, hblt, hcell⟩ := hrd (by omega)
        cases hA
        have hp := Rd.part hcell hblt (k := 64 * n) (n := l.length - 64 * n) (by omega) hc1 (by unfold maxLen; omega) hk
        rw [e] at hp
        rw [hc]
        exact hp)
  have u0 : (0 : Int) ≤ ((64 * n : Nat) : Int) := by omega
  have u1 : ((64 * n : Nat) : Int) ≤ (l.length : Int) := by omega
  have u2 : ((64 * n : Nat) : Int) ≤ (c : Int) := by omega
  have Z0 : Hid (A = none → l.length = 0) := hide (fun hA => by
    rcases Nat.eq_zero_or_pos l.length with h | h
    · exact h
    · obtain ⟨b, off, hA2, _⟩ := hrd h
      rw [hA] at hA2
      cases hA2)
  have Z1 : Hid (0 < l.length → ∀ a, A = some a → ∃ b off, a = ⟨b, off, none⟩) := hide (fun h a hA => by
    obtain ⟨b, off, hA2, _⟩ := hrd h
    rw [hA] at hA2
    cases hA2
    exact ⟨_, _, rfl⟩)
  have HB := hide hB
  have G1 := hide first
  have G2 := hide second
  have G3 := hide third
  have G4 := hide last
  clear hv hrd hB first second third last hm hmb h1 hs1 h2 hs2 hz ht hd hT
  have hdiv2 : (l.length : Int) / 64 * 64 = 64 * (n : Int) := by omega
  have u3 : 64 * (n : Int) ≤ (l.length : Int) := by omega
  have u4 : 64 * (n : Int) ≤ (c : Int) := by omega
  clear hdiv hn u0 u1 u2
  cases A with
  | none =>
    have hl0 : l.length = 0 := Z0.out rfl
    have hn0 : n = 0 := by omega
    subst hn0
    go_enter Tryz.func162, Tryz.ntmps162
    go_wp2_with (first
      | ((with_reducible refine at_slot 8 ?_); refine wpList_build_as (wd S0.list) rfl _ _ rfl (by kernel_rfl) ?_)
      | ((with_reducible refine at_slot 3 ?_); refine wpList_alloc_zero rfl _ rfl (wd Z8) (by kernel_rfl) ?_; intro w1 at1 b1 z1)
      | ((with_reducible refine at_none ?_); refine wpList_store_all rfl _ _ _ rfl w.heap.size (wd S0.list) rfl rfl _ _ at1 (by kernel_rfl) (by kernel_rfl) (wd_one _) ?_; intro w2 at2 b2 z2 n2; have bw2 := b1.trans (b2 _ (Nat.le_refl _)))
      | (go_at_call 182; (with_reducible refine (G1.out _ w.heap.size w2 (H1.out _ (by omega)) bw2 (Nat.le_refl _) at2).mono ?_); rintro e w3 ⟨⟨v3, rfl⟩, at3, o3⟩; have bw3 := o3.below bw2 (Nat.le_refl _) bw2.size; have t3 := HT.out.step bw3)
      | (go_at_call 183; (with_reducible refine (G2.out _ _ w3 (by omega) (Rd.below (H2.out _ _ _ (by omega) (.inl (by omega)) (by omega)) bw3)).mono ?_); rintro e w4 ⟨v4, rfl, o4, b4⟩; have at4 := at3.step b4; have bw4 := bw3.trans (b4.mono bw3.size))
      | (go_at_call 182; (with_reducible refine (G3.out _ w.heap.size w3.heap.size w4 o4 at3.lt at4 (t3.step b4) (Nat.le_refl _)).mono ?_); rintro e w5 ⟨⟨v5, rfl⟩, at5, o5⟩; have bw5 := o5.below bw4 (Nat.le_refl _) bw4.size)
      | (go_at_call 184; (with_reducible refine (G4.out w.heap.size w5 at5).mono ?_); rintro e w6 ⟨v6, rfl, o6, b6⟩))
    go_ret
    exact ⟨_, rfl, o6.wide bw5.size (Nat.le_refl _) (Nat.le_refl _), bw5.trans (b6.mono bw5.size)⟩
  | some a =>
    by_cases hcw : c = 64 * n
    · subst hcw
      have hll : l.length = 64 * n := by omega
      go_enter Tryz.func162, Tryz.ntmps162
      go_wp2_with (first
        | ((with_reducible refine at_slot 8 ?_); refine wpList_build_as (wd S0.list) rfl _ _ rfl (by kernel_rfl) ?_)
        | ((with_reducible refine at_slot 3 ?_); refine wpList_alloc_zero rfl _ rfl (wd Z8) (by kernel_rfl) ?_; intro w1 at1 b1 z1)
        | ((with_reducible refine at_none ?_); refine wpList_store_all rfl _ _ _ rfl w.heap.size (wd S0.list) rfl rfl _ _ at1 (by kernel_rfl) (by kernel_rfl) (wd_one _) ?_; intro w2 at2 b2 z2 n2; have bw2 := b1.trans (b2 _ (Nat.le_refl _)))
        | (go_at_call 182; (with_reducible refine (G1.out _ w.heap.size w2 (H1.out _ (by omega)) bw2 (Nat.le_refl _) at2).mono ?_); rintro e w3 ⟨⟨v3, rfl⟩, at3, o3⟩; have bw3 := o3.below bw2 (Nat.le_refl _) bw2.size; have t3 := HT.out.step bw3)
        | (go_at_call 183; (with_reducible refine (G2.out _ _ w3 (by omega) (Rd.below (H2.out _ _ _ (by omega) (.inl (by omega)) (by omega)) bw3)).mono ?_); rintro e w4 ⟨v4, rfl, o4, b4⟩; have at4 := at3.step b4; have bw4 := bw3.trans (b4.mono bw3.size))
        | (go_at_call 182; (with_reducible refine (G3.out _ w.heap.size w3.heap.size w4 o4 at3.lt at4 (t3.step b4) (Nat.le_refl _)).mono ?_); rintro e w5 ⟨⟨v5, rfl⟩, at5, o5⟩; have bw5 := o5.below bw4 (Nat.le_refl _) bw4.size)
        | (go_at_call 184; (with_reducible refine (G4.out w.heap.size w5 at5).mono ?_); rintro e w6 ⟨v6, rfl, o6, b6⟩))
      go_ret
      exact ⟨_, rfl, o6.wide bw5.size (Nat.le_refl _) (Nat.le_refl _), bw5.trans (b6.mono bw5.size)⟩
    · rcases Nat.eq_zero_or_pos l.length with hl0 | hl0
      · have hn0 : n = 0 := by omega
        subst hn0
        go_enter Tryz.func162, Tryz.ntmps162
        go_wp2_with (first
          | ((with_reducible refine at_slot 8 ?_); refine wpList_build_as (wd S0.list) rfl _ _ rfl (by kernel_rfl) ?_)
          | ((with_reducible refine at_slot 3 ?_); refine wpList_alloc_zero rfl _ rfl (wd Z8) (by kernel_rfl) ?_; intro w1 at1 b1 z1)
          | ((with_reducible refine at_none ?_); refine wpList_store_all rfl _ _ _ rfl w.heap.size (wd S0.list) rfl rfl _ _ at1 (by kernel_rfl) (by kernel_rfl) (wd_one _) ?_; intro w2 at2 b2 z2 n2; have bw2 := b1.trans (b2 _ (Nat.le_refl _)))
          | (go_at_call 182; (with_reducible refine (G1.out _ w.heap.size w2 (H1.out _ (by omega)) bw2 (Nat.le_refl _) at2).mono ?_); rintro e w3 ⟨⟨v3, rfl⟩, at3, o3⟩; have bw3 := o3.below bw2 (Nat.le_refl _) bw2.size; have t3 := HT.out.step bw3)
          | (go_at_call 183; (with_reducible refine (G2.out _ _ w3 (by omega) (Rd.below (H2.out _ _ _ (by omega) (.inl (by omega)) (by omega)) bw3)).mono ?_); rintro e w4 ⟨v4, rfl, o4, b4⟩; have at4 := at3.step b4; have bw4 := bw3.trans (b4.mono bw3.size))
          | (go_at_call 182; (with_reducible refine (G3.out _ w.heap.size w3.heap.size w4 o4 at3.lt at4 (t3.step b4) (Nat.le_refl _)).mono ?_); rintro e w5 ⟨⟨v5, rfl⟩, at5, o5⟩; have bw5 := o5.below bw4 (Nat.le_refl _) bw4.size)
          | (go_at_call 184; (with_reducible refine (G4.out w.heap.size w5 at5).mono ?_); rintro e w6 ⟨v6, rfl, o6, b6⟩))
        go_ret
        exact ⟨_, rfl, o6.wide bw5.size (Nat.le_refl _) (Nat.le_refl _), bw5.trans (b6.mono bw5.size)⟩
      · obtain ⟨b, off, ha⟩ := Z1.out hl0 a rfl
        subst ha
        go_enter Tryz.func162, Tryz.ntmps162
        go_wp2_with (first
          | ((with_reducible refine at_slot 8 ?_); refine wpList_build_as (wd S0.list) rfl _ _ rfl (by kernel_rfl) ?_)
          | ((with_reducible refine at_slot 3 ?_); refine wpList_alloc_zero rfl _ rfl (wd Z8) (by kernel_rfl) ?_; intro w1 at1 b1 z1)
          | ((with_reducible refine at_none ?_); refine wpList_store_all rfl _ _ _ rfl w.heap.size (wd S0.list) rfl rfl _ _ at1 (by kernel_rfl) (by kernel_rfl) (wd_one _) ?_; intro w2 at2 b2 z2 n2; have bw2 := b1.trans (b2 _ (Nat.le_refl _)))
          | (go_at_call 182; (with_reducible refine (G1.out _ w.heap.size w2 (H1.out _ rfl) bw2 (Nat.le_refl _) at2).mono ?_); rintro e w3 ⟨⟨v3, rfl⟩, at3, o3⟩; have bw3 := o3.below bw2 (Nat.le_refl _) bw2.size; have t3 := HT.out.step bw3)
          | (go_at_call 183; (with_reducible refine (G2.out _ _ w3 (by omega) (Rd.below (H2.out _ _ _ (by omega) (.inr ⟨_, _, rfl, rfl⟩) (by omega)) bw3)).mono ?_); rintro e w4 ⟨v4, rfl, o4, b4⟩; have at4 := at3.step b4; have bw4 := bw3.trans (b4.mono bw3.size))
          | (go_at_call 182; (with_reducible refine (G3.out _ w.heap.size w3.heap.size w4 o4 at3.lt at4 (t3.step b4) (Nat.le_refl _)).mono ?_); rintro e w5 ⟨⟨v5, rfl⟩, at5, o5⟩; have bw5 := o5.below bw4 (Nat.le_refl _) bw4.size)
          | (go_at_call 184; (with_reducible refine (G4.out w.heap.size w5 at5).mono ?_); rintro e w6 ⟨v6, rfl, o6, b6⟩))
        go_ret
        exact ⟨_, rfl, o6.wide bw5.size (Nat.le_refl _) (Nat.le_refl _), bw5.trans (b6.mono bw5.size)⟩

set_option maxHeartbeats 400000 in
theorem implSha (l : List Int) (hB : Byt l) (v : Value) (w : World) (hv : Rd w v (bs l)) (hT : Tab w) :
    Calls Tryz.prog 162 #[v] w fun e w' => ∃ v', e = .returned v' ∧ Own 5 w.heap.size w'.heap.size w' v' (bs (sha256 l)) ∧ Below w.heap.size w w' := by
  by_cases h : 100000 < l.length
  · rw [sha256, if_pos h]
    obtain ⟨A, c, hV, hc1, hc2, _⟩ := id hv
    rw [bs_length] at *
    unfold maxLen at hc2
    subst hV
    clear hv hT
    go_enter Tryz.func162, Tryz.ntmps162
    go_wp2
    go_ret
    exact ⟨_, rfl, Own.of (World.ownsRow_nil _ _ _ _) rfl, Below.refl _ _⟩
  · rw [sha256, if_neg h]
    exact implShaIn l hB v w hv (by omega) hT

end Go.Proofs.YtmhapnlgakkljaaGreatDoor


/-
  The encoding of a tree, in plain numbers.
-/
namespace Go.Proofs.YtmhapnlgakkljaaGreatDoor
open Go.RowKit
set_option linter.unusedVariables false

/-- A text with its length ahead. -/
def txt (t : List Int) : List Int := vint t.length ++ t
theorem putText_txt {l t : List Int} (h : t.length ≤ 400) : putText l t = l ++ txt t := by
  rw [putText, if_neg (by omega), putNum, if_neg (by omega), Int.toNat_natCast, List.append_assoc]
  rfl
theorem txt_len {t : List Int} (h : t.length ≤ 2147483647) : (txt t).length ≤ t.length + 5 := by
  have := vint_len t.length h
  rw [txt, List.length_append]
  omega
theorem txt_byt {t : List Int} (h : Byt t) : Byt (txt t) := (vint_byt _).app h

mutual
def T.enc : T → List Int
  | .node k d ns ks => k :: (if k = 2 then (ks.length : Int) :: T.encs ks ns else txt d)
def T.encs : List T → List (List Int) → List Int
  | [], _ => []
  | t :: ts, ns => txt (ns.headD []) ++ t.enc ++ T.encs ts ns.tail
end
theorem T.encs_next {ks : List T} {j : Nat} (h : j < ks.length) (ns : List (List Int)) : T.encs (ks.take (j + 1)) ns = T.encs (ks.take j) ns ++ txt (ns.getD j []) ++ (ks[j]).enc := by
  induction ks generalizing j ns with
  | nil => simp at h
  | cons t r ih =>
    cases j with
    | zero => cases ns <;> simp [T.encs]
    | succ j =>
      have h2 := ih (j := j) (by simpa using h) ns.tail
      have h3 : ns.tail.getD j [] = ns.getD (j + 1) [] := by cases ns <;> simp [List.getD]
      rw [List.take_succ_cons, T.encs, h2, h3, List.take_succ_cons, T.encs]
      simp only [List.append_assoc, List.getElem_cons_succ]
theorem T.encs_take (ks : List T) (j : Nat) (ns : List (List Int)) : (T.encs (ks.take j) ns).length ≤ (T.encs ks ns).length := by
  induction ks generalizing j ns with
  | nil => simp [T.encs]
  | cons t r ih =>
    cases j with
    | zero => simp [T.encs]
    | succ j =>
      have := ih j ns.tail
      simp only [List.take_succ_cons, T.encs, List.length_append]
      omega
theorem sumLen_head (ns : List (List Int)) : (ns.headD []).length + sumLen ns.tail = sumLen ns := by
  cases ns <;> simp [sumLen]
theorem T.encs_room (ks : List T) (h : ∀ t ∈ ks, t.bulk ≤ 1048576 → t.enc.length + 5 ≤ t.bulk + 11 * t.size) (ns : List (List Int)) (hn : sumLen ns ≤ 1048576) (hk : T.bulks ks ≤ 1048576) : (T.encs ks ns).length ≤ sumLen ns + T.bulks ks + 11 * T.sizes ks := by
  induction ks generalizing ns with
  | nil => simp [T.encs]
  | cons t r ih =>
    have hh := sumLen_head ns
    rw [T.bulks] at hk
    have h1 := h t (List.mem_cons_self ..) (by omega)
    have h2 := ih (fun t ht => h t (List.mem_cons_of_mem _ ht)) ns.tail (by omega) (by omega)
    have h3 := txt_len (t := ns.headD []) (by omega)
    rw [T.encs, T.bulks, T.sizes, List.length_append, List.length_append]
    omega
theorem T.enc_room : ∀ t : T, t.bulk ≤ 1048576 → t.enc.length + 5 ≤ t.bulk + 11 * t.size := by
  intro t
  induction t using T.ind with
  | h k d ns ks ih =>
    intro hb
    rw [T.bulk] at hb
    have h1 := T.encs_room ks ih ns (by omega) (by omega)
    have h2 := txt_len (t := d) (by omega)
    rw [T.enc, T.bulk, T.size, List.length_cons]
    split
    · rw [List.length_cons]; omega
    · omega

/-- What TreeBytes answers. -/
def encOf (t : T) : List Int := if treeOk t then t.enc else []
theorem encOf_room (t : T) (h : t.bulk ≤ 1048576) : (encOf t).length ≤ 1049100 := by
  unfold encOf
  split
  · rename_i hv
    rw [treeOk, Bool.and_eq_true, decide_eq_true_eq] at hv
    have := t.enc_room h
    omega
  · simp
theorem entry_len {l : List Int} (h : entryOk l = true) : l.length ≤ 8 := by
  rw [entryOk, Bool.and_eq_true, decide_eq_true_eq] at h
  exact h.1.2.1
theorem nodeOk_dir {d : List Int} {ns : List (List Int)} {ks : List T} (h : (T.node 2 d ns ks).nodeOk = true) : d.length = 0 ∧ ks.length ≤ 6 ∧ ns.length = ks.length ∧ ∀ m, m < ns.length → (ns.getD m []).length ≤ 8 := by
  rw [T.nodeOk, if_pos rfl, Bool.and_eq_true, decide_eq_true_eq] at h
  refine ⟨h.1.1, h.1.2.1, h.1.2.2, fun m hm => ?_⟩
  have := asc_at.1 h.2 m hm
  rw [nameAt, Bool.and_eq_true] at this
  exact entry_len this.1
theorem nodeOk_file {k : Int} {d : List Int} {ns : List (List Int)} {ks : List T} (h2 : k ≠ 2) (h : (T.node k d ns ks).nodeOk = true) : 0 ≤ k ∧ k ≤ 3 ∧ d.length ≤ 400 ∧ ns.length = 0 ∧ ks.length = 0 := by
  rw [T.nodeOk, if_neg h2, decide_eq_true_eq] at h
  exact h
theorem okAt_parts {k : Int} {d : List Int} {ns : List (List Int)} {ks : List T} {deep : Nat} (h : T.okAt (.node k d ns ks) deep = true) : (T.node k d ns ks).nodeOk = true ∧ ∀ t ∈ ks, t.okAt (deep + 1) = true := by
  rw [T.okAt, Bool.and_eq_true, Bool.and_eq_true] at h
  exact ⟨h.2.1, T.okAts_mem h.2.2⟩

end Go.Proofs.YtmhapnlgakkljaaGreatDoor


/-
  The model's TreeData, whole.
-/
namespace Go.Proofs.YtmhapnlgakkljaaGreatDoor
open Go.RowKit
set_option linter.unusedVariables false

theorem T.dats_bulk (ks : List T) (h : ∀ t ∈ ks, t.dat.length ≤ t.bulk) : (T.dats ks).length ≤ T.bulks ks := by
  induction ks with
  | nil => simp [T.dats]
  | cons t r ih =>
    rw [T.dats, T.bulks, List.length_append]
    have h1 := h t (List.mem_cons_self ..)
    have h2 := ih fun t ht => h t (List.mem_cons_of_mem _ ht)
    omega
theorem T.dat_bulk : ∀ t : T, t.dat.length ≤ t.bulk := by
  intro t
  induction t using T.ind with
  | h k d ns ks ih =>
    have := T.dats_bulk ks ih
    rw [T.dat, T.bulk, List.length_append]
    omega
/-- What TreeData answers. -/
def datOf (t : T) : List Int := if treeOk t then t.dat else []

end Go.Proofs.YtmhapnlgakkljaaGreatDoor


/-
  The program's nodes: the function value; what it does with its rounds. TreeOk's own loop.
-/
namespace Go.Proofs.YtmhapnlgakkljaaGreatDoor
open Go.RowKit Go.Shelf
set_option linter.unusedVariables false
attribute [local go_sem] Oper.semAt_some

set_option maxRecDepth 20000 in
set_option maxHeartbeats 800000 in
theorem nodes (t : T) (q : Q) (w : World) (hq : TIn w t q) :
    Calls Tryz.prog 142 #[q.val] w fun e w' => e = .returned (.func (.func 156) #[] #[.pointer (some ⟨w.heap.size, 0, none⟩)]) ∧ w' = w.alloc (.cells #[.int .i64 q.k, q.d, q.n, q.c] 52) := by
  obtain ⟨A, n, c, A', n', c', A'', n'', c'', e, e', e''⟩ := hq.form
  obtain ⟨k, d, ns, ks⟩ := q
  dsimp only at e e' e''
  subst e e' e''
  dsimp only [Q.val]
  clear hq
  go_enter Tryz.func142, Tryz.ntmps142
  go_wp2
  go_ret
  exact ⟨rfl, rfl⟩

set_option maxRecDepth 20000 in
set_option maxHeartbeats 800000 in
theorem nodes1 (w0 : World) (x : Nd w0) (hs : x.s = 0) (hn : x.nm = []) (hv : x.v = .slice none 0 0) (l : Nat) (J Jx : List (Nd w0) → World → Prop)
    (hJ : ∀ pre W W', J pre W → Below W.heap.size W W' → J pre W') (hG : ∀ pre W, J pre W → ∀ y ∈ pre, y.good)
    (hY : ∀ pre (y : Nd w0) W, J pre W → pre.map Nd.key ++ [y.key] <+: x.t.pre 0 [] → Below w0.heap.size w0 W → YieldAt Fence.wide 0 Tryz.prog l #[y.val] W fun e W' =>
      (e = .returned (.bool true) ∧ J (pre ++ [y]) W' ∧ Holds w0.heap.size W W') ∨ (e = .returned (.bool false) ∧ Jx (pre ++ [y]) W'))
    (W : World) (g : Nat) (hg : C4 W g 52 (.int .i64 x.q.k) x.q.d x.q.n x.q.c) (hw : Below w0.heap.size w0 W) (h0 : J [] W) :
    Calls Tryz.prog 156 #[.func (.yield l) #[] #[], .pointer (some ⟨g, 0, none⟩)] W fun e W' => (∃ v, e = .returned v) ∧
      ((∃ xs : List (Nd w0), xs.map Nd.key = x.t.pre 0 [] ∧ J xs W') ∨ (∃ xs : List (Nd w0), xs.map Nd.key <+: x.t.pre 0 [] ∧ Jx xs W')) := by
  have hcall := produce x.t w0 x l J Jx (x.t.pre 0 []) hJ hG hY rfl [] W h0 hw (by rw [hs, hn]; exact List.prefix_refl _)
  rw [hs, hn, Nd.val, hs, hv] at hcall
  obtain ⟨A, n, c, A', n', c', A'', n'', c'', e, e', e''⟩ := x.hq.form
  rw [e, e', e''] at hcall hg
  generalize x.q.k = k at *
  have HC := hide hcall
  have x0 := hg.c0
  have x1 := hg.c1
  have x2 := hg.c2
  have x3 := hg.c3
  clear hcall hJ hG hY hg hw h0 hs hn hv e e' e''
  go_enter Tryz.func156, Tryz.ntmps156
  go_wp2_with fail
  refine HC.out.mono ?_
  rintro e W2 (⟨rfl, ⟨xs, h1, h2⟩, _⟩ | ⟨rfl, xs, h1, h2⟩)
  · have H1 := hide h1
    have H2 := hide h2
    clear h1 h2
    go_wp2
    go_end0
    exact ⟨⟨_, rfl⟩, .inl ⟨xs, H1.out, H2.out⟩⟩
  · have H1 := hide h1
    have H2 := hide h2
    clear h1 h2
    go_wp2
    go_end0
    exact ⟨⟨_, rfl⟩, .inr ⟨xs, H1.out, H2.out⟩⟩

end Go.Proofs.YtmhapnlgakkljaaGreatDoor


/-
  NameOf: the model and the program give the same characters.
-/
namespace Go.Proofs.YtmhapnlgakkljaaGreatDoor
open Go.RowKit
set_option linter.unusedVariables false

/-- What NameOf answers. -/
def nameOf (k : Int) (l : List Int) : List Int := if 90000 < l.length then [] else b32 ((shaL (k :: l)).take 10)
theorem sha10_len (l : List Int) : ((shaL l).take 10).length = 10 := by rw [List.length_take, shaL_len]; rfl
theorem sha10_byt (l : List Int) : Byt ((shaL l).take 10) := (shaL_byt l).take 10
theorem base32_ten (l : List Int) : base32 ((shaL l).take 10) = b32 ((shaL l).take 10) := by
  rw [base32, if_neg (by rw [sha10_len]; omega)]

/-- The first ten elements of a row of 32. -/
theorem Rd.ten {w : World} {A : Option Addr} {c : Nat} {l : List Int} (h : Rd w (.slice A 32 c) (bs (shaL l))) : ∃ b off, A = some ⟨b, off, none⟩ ∧ 32 ≤ c ∧ c ≤ maxLen ∧ Rd w (.slice A 10 c) (bs ((shaL l).take 10)) := by
  obtain ⟨A2, c2, e, h1, h2, h3⟩ := h
  rw [bs_length, shaL_len] at *
  injection e with e1 _ e2
  subst e1 e2
  obtain ⟨b, off, rfl, hb, hc⟩ := h3 (by omega)
  refine ⟨b, off, rfl, h1, h2, ?_⟩
  have := Rd.part hc hb (k := 0) (n := 10) (by rw [shaL_len]; omega) (by rw [shaL_len]; exact h1) h2 rfl
  simpa using this

set_option maxRecDepth 20000 in
set_option maxHeartbeats 800000 in
theorem specName (k : Int) (hk : 0 ≤ k ∧ k ≤ 255) (l : List Int) (hB : Byt l) (v : Value) (w : World) (hv : Rd w v (bs l)) (hl : l.length ≤ 90000) :
    Calls Tryz.prog 118 #[.int .u8 k, v] w fun e w' => ∃ v', e = .returned v' ∧ Own 5 w.heap.size w'.heap.size w' v' (bs (b32 ((shaL (k :: l)).take 10))) ∧ Below w.heap.size w w' := by
  obtain ⟨i0, hi0, hz0, hz1, hz2⟩ := info_parts u8info
  have hB2 : Byt (k :: l) := (Byt.one hk.1 hk.2).app hB
  obtain ⟨A, c, hV, hc1, hc2, _⟩ := id hv
  rw [bs_length] at *
  unfold maxLen at hc2
  subst hV
  have HV := hide hv
  clear hv
  have own1 : (w.alloc (.cells #[.int .u8 k] 5)).ownsRow w.heap.size 5 1 (.slice (some ⟨w.heap.size, 0, none⟩) 1 1) 1 (bs [k]) := World.ownsRow_lit w #[.int .u8 k] 1 (by omega) (by simp [maxLen]) rfl
  go_enter Tryz.func118, Tryz.ntmps118
  go_wp2_with (first
    | (at_builtin; refine wpList_app _ rfl _ _ _ rfl w.heap.size 5 i0 _ 1 Tryz.underlying36 hi0 hz0 hz1 hz2 rfl _ _ _ rfl own1 _ (bs l) rfl (HV.out.alloc _) (bs_one l) (by rw [bs_length]; simp only [maxLen]; omega) (by rw [bs_length]; omega) (by simp) ?_; intro v1 w1 own2 gr1; have b1 : Below w.heap.size w w1 := Below.row ((Below.refl _ _).alloc (Nat.le_refl _) _) (by simp) own1 gr1; have r1 : Rd w1 v1 (bs (k :: l)) := (Own.of (own_cells own2 (bs_append [k] l).symm) (by simp [bs]; omega)).rd)
    | (go_at_call 139; (with_reducible refine (specSum (k :: l) hB2 v1 w1 r1 (by simp; omega)).mono ?_); rintro e w2 ⟨v2, rfl, o2, b2⟩; obtain ⟨A2, c2, rfl, hc3, hc4⟩ := own_slice o2.1; rw [bs_length, shaL_len] at *; obtain ⟨bb, off, rfl, hc5, hc6, r2⟩ := o2.rd.ten; unfold maxLen at hc6)
    | (go_at_call 138; (with_reducible refine (specBase ((shaL (k :: l)).take 10) (sha10_byt _) _ w2 r2 (by rw [sha10_len]; omega)).mono ?_); rintro e w3 ⟨v3, rfl, o3, b3⟩))
  go_ret
  have c2' : Below w.heap.size w w2 := b1.trans (b2.mono b1.size)
  exact ⟨_, rfl, o3.wide c2'.size (Nat.le_refl _) (Nat.le_refl _), c2'.trans (b3.mono c2'.size)⟩

set_option maxRecDepth 20000 in
set_option maxHeartbeats 800000 in
theorem implNameOf (k : Int) (hk : 0 ≤ k ∧ k ≤ 255) (l : List Int) (hB : Byt l) (v : Value) (w : World) (hv : Rd w v (bs l)) (hT : Tab w) :
    Calls Tryz.prog 148 #[.int .u8 k, v] w fun e w' => ∃ v', e = .returned v' ∧ Own 5 w.heap.size w'.heap.size w' v' (bs (nameOf k l)) ∧ Below w.heap.size w w' := by
  obtain ⟨i0, hi0, hz0, hz1, hz2⟩ := info_parts u8info
  have hB2 : Byt (k :: l) := (Byt.one hk.1 hk.2).app hB
  obtain ⟨A, c, hV, hc1, hc2, _⟩ := id hv
  rw [bs_length] at *
  unfold maxLen at hc2
  subst hV
  have HT := hide hT
  clear hT
  by_cases h : 90000 < l.length
  · rw [nameOf, if_pos h]
    clear hv
    go_enter Tryz.func148, Tryz.ntmps148
    go_wp2
    go_ret
    exact ⟨_, rfl, Own.of (World.ownsRow_nil _ _ _ _) rfl, Below.refl _ _⟩
  · rw [nameOf, if_neg h]
    have HV := hide hv
    clear hv
    have own1 : (w.alloc (.cells #[.int .u8 k] 5)).ownsRow w.heap.size 5 1 (.slice (some ⟨w.heap.size, 0, none⟩) 1 1) 1 (bs [k]) := World.ownsRow_lit w #[.int .u8 k] 1 (by omega) (by simp [maxLen]) rfl
    have hsh : sha256 (k :: l) = shaL (k :: l) := by rw [sha256, if_neg (by simp; omega)]
    have hbs : base32 ((shaL (k :: l)).take 10) = b32 ((shaL (k :: l)).take 10) := base32_ten _
    rw [← hbs]
    clear hbs
    go_enter Tryz.func148, Tryz.ntmps148
    go_wp2_with (first
      | (at_builtin; refine wpList_app _ rfl _ _ _ rfl w.heap.size 5 i0 _ 1 Tryz.underlying36 hi0 hz0 hz1 hz2 rfl _ _ _ rfl own1 _ (bs l) rfl (HV.out.alloc _) (bs_one l) (by rw [bs_length]; simp only [maxLen]; omega) (by rw [bs_length]; omega) (by simp) ?_; intro v1 w1 own2 gr1; have b1 : Below w.heap.size w w1 := Below.row ((Below.refl _ _).alloc (Nat.le_refl _) _) (by simp) own1 gr1; have r1 : Rd w1 v1 (bs (k :: l)) := (Own.of (own_cells own2 (bs_append [k] l).symm) (by simp [bs]; omega)).rd; have hsha := implSha (k :: l) hB2 v1 w1 r1 (HT.out.step b1); rw [hsh] at hsha)
      | (go_at_call 162; (with_reducible refine hsha.mono ?_); rintro e w2 ⟨v2, rfl, o2, b2⟩; obtain ⟨A2, c2, rfl, hc3, hc4⟩ := own_slice o2.1; rw [bs_length, shaL_len] at *; obtain ⟨bb, off, rfl, hc5, hc6, r2⟩ := o2.rd.ten; unfold maxLen at hc6)
      | (go_at_call 163; (with_reducible refine (implBase32 ((shaL (k :: l)).take 10) (sha10_byt _) _ w2 r2).mono ?_); rintro e w3 ⟨v3, rfl, o3, b3⟩))
    go_ret
    have c2' : Below w.heap.size w w2 := b1.trans (b2.mono b1.size)
    exact ⟨_, rfl, o3.wide c2'.size (Nat.le_refl _) (Nat.le_refl _), c2'.trans (b3.mono c2'.size)⟩

end Go.Proofs.YtmhapnlgakkljaaGreatDoor


/-
  Valid trees are small.
-/
namespace Go.Proofs.YtmhapnlgakkljaaGreatDoor
open Go.RowKit
set_option linter.unusedVariables false

theorem sumLen_le8 : ∀ (ns : List (List Int)), (∀ m, m < ns.length → (ns.getD m []).length ≤ 8) → sumLen ns ≤ 8 * ns.length
  | [], _ => by simp [sumLen]
  | n :: r, h => by
    have h0 := h 0 (by simp)
    have := sumLen_le8 r (fun m hm => by have := h (m + 1) (by simpa using hm); simpa using this)
    simp [sumLen] at h0 ⊢
    omega
theorem T.bulks_ok (ks : List T) (h : ∀ t ∈ ks, t.bulk ≤ 400 * t.size) : T.bulks ks ≤ 400 * T.sizes ks := by
  induction ks with
  | nil => simp [T.bulks]
  | cons t r ih =>
    have h1 := h t (List.mem_cons_self ..)
    have h2 := ih fun t ht => h t (List.mem_cons_of_mem _ ht)
    rw [T.bulks, T.sizes]
    omega
theorem T.bulk_ok : ∀ (t : T) {d : Nat}, t.okAt d = true → t.bulk ≤ 400 * t.size := by
  intro t
  induction t using T.ind with
  | h k d ns ks ih =>
    intro deep h
    obtain ⟨h1, h2⟩ := okAt_parts h
    have h3 := T.bulks_ok ks fun t ht => ih t ht (h2 t ht)
    rw [T.bulk, T.size]
    by_cases hk : k = 2
    · subst hk
      obtain ⟨a, b, c, e⟩ := nodeOk_dir h1
      have := sumLen_le8 ns e
      omega
    · obtain ⟨a, b, c, e, f⟩ := nodeOk_file hk h1
      have : ns = [] := List.eq_nil_of_length_eq_zero e
      subst this
      simp [sumLen]
      omega
theorem treeOk_at {t : T} (h : treeOk t = true) : t.okAt 1 = true ∧ t.size ≤ 40 := by
  rw [treeOk, Bool.and_eq_true, decide_eq_true_eq] at h
  exact h
theorem treeOk_bulk {t : T} (h : treeOk t = true) : t.bulk ≤ 16000 := by
  obtain ⟨h1, h2⟩ := treeOk_at h
  have := T.bulk_ok t h1
  omega
theorem treeOk_enc {t : T} (h : treeOk t = true) : t.enc.length ≤ 16440 := by
  have h1 := treeOk_bulk h
  have h2 := T.enc_room t (by omega)
  have h3 := (treeOk_at h).2
  omega
theorem treeOk_data {t : T} (h : treeOk t = true) : t.data.length ≤ 16000 := by
  have h1 := treeOk_bulk h
  obtain ⟨k, d, ns, ks⟩ := t
  rw [T.bulk] at h1
  show d.length ≤ _
  omega
theorem T.dats_bulk2 (ks : List T) (h : ∀ t ∈ ks, t.dat.length ≤ t.bulk) : (T.dats ks).length ≤ T.bulks ks := by
  induction ks with
  | nil => simp [T.dats]
  | cons t r ih =>
    have h1 := h t (List.mem_cons_self ..)
    have h2 := ih fun t ht => h t (List.mem_cons_of_mem _ ht)
    rw [T.dats, T.bulks, List.length_append]
    omega
theorem T.dat_bulk2 : ∀ t : T, t.dat.length ≤ t.bulk := by
  intro t
  induction t using T.ind with
  | h k d ns ks ih =>
    have := T.dats_bulk2 ks ih
    rw [T.dat, T.bulk, List.length_append]
    omega
theorem treeOk_dat {t : T} (h : treeOk t = true) : t.dat.length ≤ 16000 := Nat.le_trans (T.dat_bulk2 t) (treeOk_bulk h)

theorem T.tin_of {w : World} {t : T} {k : Int} {v1 v2 v3 : Value} (h : Ins w t.cells [.int .i64 k, v1, v2, v3]) : TIn w t ⟨k, v1, v2, v3⟩ := by
  obtain ⟨q, e, hq⟩ := h.tin
  obtain ⟨k', d', n', c'⟩ := q
  simp only [Q.cells, List.cons.injEq, Value.int.injEq, true_and, and_true] at e
  obtain ⟨rfl, rfl, rfl, rfl⟩ := e
  exact hq
end Go.Proofs.YtmhapnlgakkljaaGreatDoor


/-
  Chapter 4 in plain lists: objects, stores.
-/
namespace Go.Proofs.YtmhapnlgakkljaaGreatDoor
open Go.RowKit
set_option linter.unusedVariables false

/-- The place of the first object of that name; the number of objects: there is none. -/
def atO : List DObj → List Int → Nat
  | [], _ => 0
  | o :: os, n => if o.name = n then 0 else atO os n + 1
def atI (os : List DObj) (n : List Int) : Int := if atO os n < os.length then (atO os n : Int) else -1
theorem atO_found {os : List DObj} {n : List Int} {j : Nat} (h : j < os.length) (h0 : ∀ m (hm : m < j), (os[m]'(by omega)).name ≠ n) (h1 : os[j].name = n) : atO os n = j := by
  induction os generalizing j with
  | nil => simp at h
  | cons o os ih =>
    cases j with
    | zero => rw [atO, if_pos (by simpa using h1)]
    | succ j =>
      have := h0 0 (by omega)
      rw [atO, if_neg (by simpa using this)]
      rw [ih (j := j) (by simpa using h) (fun m hm => by have := h0 (m + 1) (by omega); simpa using this) (by simpa using h1)]
theorem atO_none {os : List DObj} {n : List Int} (h0 : ∀ m (hm : m < os.length), (os[m]).name ≠ n) : atO os n = os.length := by
  induction os with
  | nil => rfl
  | cons o os ih =>
    have := h0 0 (by simp)
    rw [atO, if_neg (by simpa using this), ih (fun m hm => by have := h0 (m + 1) (by simpa using hm); simpa using this)]
    rfl
theorem atO_name {os : List DObj} {n : List Int} (h : atO os n < os.length) : (os[atO os n]).name = n := by
  induction os with
  | nil => simp at h
  | cons o os ih =>
    by_cases ho : o.name = n
    · have e : atO (o :: os) n = 0 := by rw [atO, if_pos ho]
      simp only [e]
      exact ho
    · have e : atO (o :: os) n = atO os n + 1 := by rw [atO, if_neg ho]
      simp only [e, List.getElem_cons_succ]
      exact ih (by rw [e] at h; simpa using h)
theorem atI_found {os : List DObj} {n : List Int} {j : Nat} (h : j < os.length) (h0 : ∀ m (hm : m < j), (os[m]'(by omega)).name ≠ n) (h1 : os[j].name = n) : atI os n = j := by
  rw [atI, atO_found h h0 h1, if_pos h]
theorem atI_none {os : List DObj} {n : List Int} (h0 : ∀ m (hm : m < os.length), (os[m]).name ≠ n) : atI os n = -1 := by
  rw [atI, atO_none h0, if_neg (Nat.lt_irrefl _)]

/-- The name that what an object is gives it. -/
def made (o : DObj) : List Int := if o.kind = 0 then nameOf 116 o.tree.data else if o.kind = 1 then nameOf 102 o.tree.enc else nameOf 111 (putText o.frm o.out)
def objOk (o : DObj) : Bool :=
  decide (0 ≤ o.kind ∧ o.kind ≤ 2) && (treeOk o.tree && (ascP nameOk o.refs && (decide (o.refs.length ≤ 24) &&
  ((if o.kind = 2 then nameOk o.frm && entryOk o.out else decide (o.frm.length = 0 ∧ o.out.length = 0)) &&
  (!(decide (o.kind = 0) && !decide (o.tree.kind = 0)) &&
  (o.refs.all (fun r => contL o.tree.dat r) && decide (made o = o.name)))))))
def objBad1 (o : DObj) : Bool := !(decide (0 ≤ o.kind ∧ o.kind ≤ 2) && (treeOk o.tree && (ascP nameOk o.refs && decide (o.refs.length ≤ 24))))
def objBad2 (o : DObj) : Bool := !((if o.kind = 2 then nameOk o.frm && entryOk o.out else decide (o.frm.length = 0 ∧ o.out.length = 0)) && !(decide (o.kind = 0) && !decide (o.tree.kind = 0)))
end Go.Proofs.YtmhapnlgakkljaaGreatDoor


/-
  The name of an output: the program.
-/
namespace Go.Proofs.YtmhapnlgakkljaaGreatDoor
open Go.RowKit
set_option linter.unusedVariables false

def outNm (a b : List Int) : List Int := if nameOk a && entryOk b then nameOf 111 (putText a b) else []
theorem nmLen16 {l : List Int} (h : nameOk l = true) : l.length = 16 := by
  rw [nameOk, Bool.and_eq_true, decide_eq_true_eq] at h
  exact h.1
theorem enLen8 {l : List Int} (h : entryOk l = true) : l.length ≤ 8 := by
  rw [entryOk, Bool.and_eq_true, decide_eq_true_eq] at h
  omega
theorem putText_small {a b : List Int} (ha : a.length = 16) (hb : b.length ≤ 8) : (putText a b).length ≤ 90000 := by
  have := putNum_len a b.length
  rw [putText]
  split
  · omega
  · rw [List.length_append]; omega
theorem outNm_some {a b : List Int} (ha : nameOk a = true) (hb : entryOk b = true) : outNm a b = b32 ((shaL (111 :: putText a b)).take 10) := by
  have := putText_small (nmLen16 ha) (enLen8 hb)
  rw [outNm, ha, hb, Bool.and_self, if_pos rfl, nameOf, if_neg (by omega)]
theorem outNm_pos {a b : List Int} (ha : nameOk a = true) (hb : entryOk b = true) : (outNm a b).length = 16 := by
  rw [outNm_some ha hb, b32_len, sha10_len]

set_option maxRecDepth 20000 in
set_option maxHeartbeats 800000 in
theorem implOutLow (a : List Int) (hA : Byt a) (va : Value) (b : List Int) (hB : Byt b) (vb : Value) (w : World) (h0 : Rd w va (bs a)) (h1 : Rd w vb (bs b)) (hla : a.length ≤ 1048576) (hT : Tab w) :
    Calls Tryz.prog 147 #[va, vb] w fun e w' => ∃ A n c, e = .returned (.slice A n c) ∧ Hid (A.isSome = (nameOk a && entryOk b)) ∧ Own 5 w.heap.size w'.heap.size w' (.slice A n c) (bs (outNm a b)) ∧ Below w.heap.size w w' := by
  have HNO := hide (implNameOk a hA va w h0 (by omega))
  have HEO := hide (fun W (hb : Below w.heap.size w W) => implEntryQ b hB vb W (h1.below hb))
  have HPT := hide (fun W (hb : Below w.heap.size w W) => implPutText a va b vb W (h0.below hb) (h1.below hb) (by omega))
  have hno : (nameOk a && entryOk b) = false → outNm a b = [] := fun h => by rw [outNm, h]; rfl
  have hyes : nameOk a = true → entryOk b = true → outNm a b = nameOf 111 (putText a b) ∧ (outNm a b).length = 16 := fun ha hb => ⟨by rw [outNm, ha, hb]; rfl, outNm_pos ha hb⟩
  have HNA := hide (fun v W (h : Rd W v (bs (putText a b))) (hb : Below w.heap.size w W) => implNameOf 111 (by omega) (putText a b) (putText_byt hA hB) v W h (hT.step hb))
  have HNONE := hide hno
  have HYES := hide hyes
  generalize hx : nameOk a = X at *
  generalize hy : entryOk b = Y at *
  clear h0 h1 hno hyes hx hy hT
  cases X <;> cases Y
  · have HR := hide (HNONE.out rfl)
    go_enter Tryz.func147, Tryz.ntmps147
    go_wp2_with (go_at_call 124; (with_reducible refine HNO.out.mono ?_); rintro e w1 ⟨rfl, b1⟩; have HB1 := hide b1; clear b1)
    go_ret
    exact ⟨_, _, _, rfl, hide rfl, by rw [HR.out]; exact Own.of (World.ownsRow_nil _ _ _ _) rfl, HB1.out⟩
  · have HR := hide (HNONE.out rfl)
    go_enter Tryz.func147, Tryz.ntmps147
    go_wp2_with (go_at_call 124; (with_reducible refine HNO.out.mono ?_); rintro e w1 ⟨rfl, b1⟩; have HB1 := hide b1; clear b1)
    go_ret
    exact ⟨_, _, _, rfl, hide rfl, by rw [HR.out]; exact Own.of (World.ownsRow_nil _ _ _ _) rfl, HB1.out⟩
  · have HR := hide (HNONE.out rfl)
    go_enter Tryz.func147, Tryz.ntmps147
    go_wp2_with (first
      | (go_at_call 124; (with_reducible refine HNO.out.mono ?_); rintro e w1 ⟨rfl, b1⟩; have HB1 := hide b1; clear b1)
      | (go_at_call 158; refine (HEO.out _ HB1.out).mono ?_; rintro e w' ⟨rfl, rfl⟩))
    go_ret
    exact ⟨_, _, _, rfl, hide rfl, by rw [HR.out]; exact Own.of (World.ownsRow_nil _ _ _ _) rfl, HB1.out⟩
  · have HR := hide (HYES.out (by trivial) (by trivial))
    go_enter Tryz.func147, Tryz.ntmps147
    go_wp2_with (first
      | (go_at_call 124; (with_reducible refine HNO.out.mono ?_); rintro e w1 ⟨rfl, b1⟩; have HB1 := hide b1; clear b1)
      | (go_at_call 158; refine (HEO.out _ HB1.out).mono ?_; rintro e w' ⟨rfl, rfl⟩)
      | (go_at_call 161; refine (HPT.out _ HB1.out).mono ?_; rintro e w2 ⟨v2, rfl, o2, b2⟩; have HB2 := hide (HB1.out.trans (b2.mono HB1.out.size)); have HRD := hide o2.rd; clear o2 b2)
      | (go_at_call 148; refine (HNA.out _ _ HRD.out HB2.out).mono ?_; rintro e w3 ⟨v3, rfl, o3, b3⟩; have ho3 := o3; obtain ⟨A9, c9, rfl, -, -⟩ := own_slice ho3.1; have HO3 := hide (o3.wide HB2.out.size (Nat.le_refl _) (Nat.le_refl _)); have HB3 := hide (HB2.out.trans (b3.mono HB2.out.size)); clear o3 b3 ho3))
    go_ret
    have ho := HO3.out
    obtain ⟨e1, e2⟩ := HR.out
    have hlen : 0 < (bs (nameOf 111 (putText a b))).length := by rw [bs_length, ← e1, e2]; omega
    obtain ⟨g, hg, -, -⟩ := own_form ho.1 hlen
    exact ⟨_, _, _, rfl, hide (by rw [hg]; rfl), by rw [e1]; exact ho, HB3.out⟩

end Go.Proofs.YtmhapnlgakkljaaGreatDoor


/-
  The model's l4at: where a name's object is.
-/
namespace Go.Proofs.YtmhapnlgakkljaaGreatDoor
open Go.RowKit
set_option linter.unusedVariables false

theorem obj_byt {s : DStore} (hok : oks s.cells) {j : Nat} (hj : j < s.objs.length) : oks (s.objs[j]).cells := ((DStore.oks_iff s).1 hok).1 _ (List.getElem_mem hj)
theorem objName_byt {s : DStore} (hok : oks s.cells) {j : Nat} (hj : j < s.objs.length) : Byt (s.objs[j]).name := ((DObj.oks_iff _).1 (obj_byt hok hj)).1

set_option maxRecDepth 20000 in
set_option maxHeartbeats 800000 in
theorem specAt (s : DStore) (n : List Int) (hok : oks s.cells) (hn : Byt n) (hL : s.objs.length ≤ 1048576) (us : List Value) (vn : Value) (w : World) (hs : Ins w s.cells us) (hv : In1 w (raw n) vn) :
    Calls Tryz.prog 49 #[.agg us.toArray, vn] w fun e w' => e = .returned (.int .i64 (atI s.objs n)) ∧ Below w.heap.size w w' := by
  obtain ⟨A0, c0, A1, c1, A2, c2, rfl, h0, h1, h2⟩ := DStore.view hs
  obtain ⟨N, hN⟩ : ∃ N, s.objs.length = N := ⟨_, rfl⟩
  rw [hN] at hL h0
  simp only [hN]
  obtain ⟨wa, hwa⟩ : ∃ wa, w.alloc (.cells #[.slice A0 N c0, .slice A1 s.roots.length c1, .slice A2 s.reals.length c2] 32) = wa := ⟨_, rfl⟩
  have ba : Below w.heap.size w wa := by rw [← hwa]; exact (Below.refl _ _).alloc (Nat.le_refl _) _
  have bx : Box wa w.heap.size 32 [.slice A0 N c0, .slice A1 s.roots.length c1, .slice A2 s.reals.length c2] := by rw [← hwa]; exact Box.new w _ _
  have hwz : w.heap.size < wa.heap.size := bx.lt
  have HBX := hide bx
  have HBA := hide ba
  have HO := hide hok
  have HNL := hide hN
  have H0 := hide h0
  have HV := hide hv
  clear bx ba hok h0 h1 h2 hs hv hN
  go_enter Tryz.func49, Tryz.ntmps49
  go_wp2
  go_loopw [5] (fun i wr => ∃ j : Nat, j ≤ N ∧ i = .int .i64 j ∧ Hid (∀ m (hm : m < j) (hm2 : m < s.objs.length), (s.objs[m]).name ≠ n) ∧ Below wa.heap.size wa wr) (fun i _ => N - (intOf i).toNat)
  case atStart => exact ⟨0, Nat.zero_le _, rfl, hide (fun m hm => by omega), Below.refl _ _⟩
  case round =>
    obtain ⟨j, hj, rfl, HX, hbel⟩ := hrel
    have bxr := HBX.out.step hbel
    have x0 := bxr.cell (j := 0) rfl
    have HB := hide (HBA.out.trans (hbel.mono HBA.out.size))
    by_cases hlt : j < N
    · have hjn : j < s.objs.length := by rw [HNL.out]; exact hlt
      obtain ⟨b, off, c, B0, d0, B3, d3, B4, d4, B5, d5, B6, d6, B7, d7, B8, d8, -, e1, hbl, q0, -, -, -, -, -, -, -, -, i0, -⟩ := DObj.elem H0.out HB.out hjn
      obtain rfl := e1 rfl
      have hBj := objName_byt HO.out hjn
      have r1 : ∀ m, Rd (wr.drewN m) (.slice B0 (s.objs[j]).name.length d0) (bs (s.objs[j]).name) := fun m => (i0.step HB.out).rd
      have r2 : ∀ m, Rd (wr.drewN m) vn (bs n) := fun m => (HV.out.step HB.out).rd
      have cw1 := fun m => conv_rd (P := Tryz.prog) Tryz.underlying36 Tryz.underlying5 Tryz.underlying9 (r1 m)
      have cw2 := fun m => conv_rd (P := Tryz.prog) Tryz.underlying36 Tryz.underlying5 Tryz.underlying9 (r2 m)
      have cv1 := cw1 0
      have cv2 := cw2 0
      have heq := str_eq hBj hn
      have k1 : (j : Int) < (N : Int) := by omega
      have k0 : (0 : Int) ≤ (j : Int) := by omega
      have k2 : (j : Int).toNat = j := by omega
      have hf := fun h => atI_found (n := n) hjn (fun m hm => HX.out m hm (by omega)) h
      generalize strOfNums (s.objs[j]).name = s1 at *
      generalize strOfNums n = s2 at *
      generalize (s.objs[j]).name.length = ln at *
      have HB2 := hide hbel
      clear hbel bxr i0 r1 r2 hBj
      by_cases hat : (s.objs[j]).name = n
      · rw [decide_eq_true hat] at heq
        have HF := hide (hf hat)
        clear hf hat
        go_upto_region 4 with (fail)
        go_quiet (fail)
        go_wp2
        go_ret
        exact ⟨ret_i64 HF.out.symm, below_drewN HB.out _⟩
      · rw [decide_eq_false hat] at heq
        have HAT := hide hat
        clear hf hat
        go_upto_region 4 with (fail)
        go_quiet (fail)
        go_wp2
        go_roundw
        case rel => exact ⟨j + 1, by omega, by go_num, hide (fun m hm hm2 => by
          rcases Nat.lt_or_ge m j with h | h
          · exact HX.out m h hm2
          · obtain rfl : m = j := by omega
            exact HAT.out), below_drewN HB2.out _⟩
        case measure => simp [intOf]; omega
    · obtain rfl : j = N := by omega
      have hr : atI s.objs n = -1 := atI_none (fun m hm => HX.out m (by rw [← HNL.out]; exact hm) hm)
      have HR := hide hr
      clear hbel hr
      go_wp2
      go_ret
      exact ⟨ret_i64 HR.out.symm, HB.out⟩

end Go.Proofs.YtmhapnlgakkljaaGreatDoor


/-
  The bytes of a tree are bytes.
-/
namespace Go.Proofs.YtmhapnlgakkljaaGreatDoor
open Go.RowKit
set_option linter.unusedVariables false

theorem T.bytss_of {ks : List T} (h : ∀ t ∈ ks, t.Byts) : T.Bytss ks := by
  induction ks with
  | nil => rw [T.Bytss]; trivial
  | cons t r ih => rw [T.Bytss]; exact ⟨h t (List.mem_cons_self ..), ih fun t ht => h t (List.mem_cons_of_mem _ ht)⟩
theorem T.byts_of : ∀ (t : T), oks t.cells → t.Byts := by
  intro t
  induction t using T.ind with
  | h k d ns ks ih =>
    intro h
    obtain ⟨_, h2, h3, h4⟩ := (T.oks_iff _).1 h
    rw [T.Byts]
    exact ⟨h2, h3, T.bytss_of fun t ht => ih t ht (h4 t ht)⟩
theorem T.encs_byt (ks : List T) (ih : ∀ t ∈ ks, ∀ d, t.okAt d = true → t.Byts → Byt t.enc) {d : Nat} (hk : ∀ t ∈ ks, t.okAt d = true) (hb : T.Bytss ks) (ns : List (List Int)) (hn : BytN ns) : Byt (T.encs ks ns) := by
  induction ks generalizing ns with
  | nil => rw [T.encs]; exact fun x hx => by cases hx
  | cons t r ihr =>
    rw [T.Bytss] at hb
    rw [T.encs]
    refine ((txt_byt ?_).app (ih t (List.mem_cons_self ..) d (hk t (List.mem_cons_self ..)) hb.1)).app (ihr (fun t ht => ih t (List.mem_cons_of_mem _ ht)) (fun t ht => hk t (List.mem_cons_of_mem _ ht)) hb.2 _ ?_)
    · cases ns with
      | nil => exact fun x hx => by cases hx
      | cons n r => exact hn n (List.mem_cons_self ..)
    · cases ns with
      | nil => exact hn
      | cons n r => exact fun x hx => hn x (List.mem_cons_of_mem _ hx)
theorem T.enc_byt : ∀ (t : T) {d : Nat}, t.okAt d = true → t.Byts → Byt t.enc := by
  intro t
  induction t using T.ind with
  | h k d ns ks ih =>
    intro deep h hb
    obtain ⟨h1, h2⟩ := okAt_parts h
    rw [T.Byts] at hb
    rw [T.enc]
    by_cases hk : k = 2
    · subst hk
      obtain ⟨a, b, c, e⟩ := nodeOk_dir h1
      rw [if_pos rfl]
      exact (Byt.one (by omega) (by omega)).app ((Byt.one (by omega) (by omega)).app (T.encs_byt ks (fun t ht d hd hbt => ih t ht hd hbt) h2 hb.2.2 ns hb.2.1))
    · obtain ⟨a, b, c, e, f⟩ := nodeOk_file hk h1
      rw [if_neg hk]
      exact (Byt.one (by omega) (by omega)).app (txt_byt hb.1)
theorem T.dats_byt (ks : List T) (ih : ∀ t ∈ ks, t.Byts → Byt t.dat) (hb : T.Bytss ks) : Byt (T.dats ks) := by
  induction ks with
  | nil => rw [T.dats]; exact fun x hx => by cases hx
  | cons t r ihr =>
    rw [T.Bytss] at hb
    rw [T.dats]
    exact (ih t (List.mem_cons_self ..) hb.1).app (ihr (fun t ht => ih t (List.mem_cons_of_mem _ ht)) hb.2)
theorem T.dat_byt : ∀ (t : T), t.Byts → Byt t.dat := by
  intro t
  induction t using T.ind with
  | h k d ns ks ih =>
    intro hb
    rw [T.Byts] at hb
    rw [T.dat]
    exact hb.1.app (T.dats_byt ks ih hb.2.2)
end Go.Proofs.YtmhapnlgakkljaaGreatDoor


/-
  The validity of an object, as the program decides it: the same.
-/
namespace Go.Proofs.YtmhapnlgakkljaaGreatDoor
open Go.RowKit
set_option linter.unusedVariables false
set_option linter.unusedSimpArgs false

theorem ltr_lidx : ∀ k : Fin 32, lidx (ltr k.val) = k.val := by decide +kernel
theorem b32_good (b : List Int) : ∀ x ∈ b32 b, 0 ≤ lidx x := by
  intro x hx
  obtain ⟨y, hy, rfl⟩ := List.mem_map.1 hx
  have h1 := grp_lt b 0 y hy
  obtain ⟨k, rfl⟩ := Int.eq_ofNat_of_zero_le h1.1
  rw [ltr_lidx ⟨k, by omega⟩]
  exact h1.1
theorem nameOk_ten (x : List Int) (h : x.length = 10) : nameOk (b32 x) = true := by
  have hl : (b32 x).length = 16 := by rw [b32_len, h]
  rw [nameOk, hl, okFrom, List.drop_zero, List.all_eq_true.2 fun y hy => decide_eq_true (b32_good x y hy)]
  rfl
theorem nameOf_ok (k : Int) (l : List Int) (h : l.length ≤ 90000) : nameOk (nameOf k l) = true := by
  rw [nameOf, if_neg (by omega)]
  exact nameOk_ten _ (sha10_len _)

/-- The name that an object has, by what it is; [] if there is none. -/
def objNm (o : DObj) : List Int :=
  if o.kind = 2 then outNm o.frm o.out
  else if o.frm.length = 0 ∧ o.out.length = 0 then (if o.kind = 0 ∧ o.tree.kind = 0 then nameOf 116 o.tree.data else if o.kind = 1 then nameOf 102 (encOf o.tree) else [])
  else []
def refsFit (o : DObj) : Bool := decide (o.refs.length ≤ 24) && decide ((scanOf o.tree.dat o.refs).length = o.refs.length)

theorem scan_all (b : List Int) (ns : List (List Int)) : (scanOf b ns).length = ns.length ↔ ascP nameOk ns = true ∧ ns.all (fun r => contL b r) = true := by
  unfold scanOf scanL
  split
  · rename_i h
    rw [List.length_filter_eq_length_iff, List.all_eq_true]
    exact ⟨fun h1 => ⟨h, h1⟩, fun h1 => h1.2⟩
  · rename_i h
    constructor
    · intro h1
      have : ns = [] := List.eq_nil_of_length_eq_zero h1.symm
      rw [this] at h
      exact absurd rfl h
    · intro h1
      exact absurd h1.1 h
theorem nameOk_nil : nameOk [] = false := rfl

theorem objOk_prog (o : DObj) : objOk o = (treeOk o.tree && (refsFit o && (nameOk o.name && decide (objNm o = o.name)))) := by
  rw [Bool.eq_iff_iff]
  unfold objOk refsFit
  simp only [Bool.and_eq_true, decide_eq_true_eq, Bool.not_eq_true', Bool.and_eq_false_iff, decide_eq_false_iff_not, Decidable.not_not, Bool.not_eq_false']
  rw [scan_all]
  constructor
  · rintro ⟨hk, ht, hasc, hlen, hcond, hfile, hall, hmade⟩
    have hd := treeOk_data ht
    have he := treeOk_enc ht
    have hee : encOf o.tree = o.tree.enc := by rw [encOf, if_pos ht]
    have hm : objNm o = made o ∧ nameOk (made o) = true := by
      by_cases h2 : o.kind = 2
      · rw [if_pos h2, Bool.and_eq_true] at hcond
        have e : made o = nameOf 111 (putText o.frm o.out) := by rw [made, if_neg (by omega), if_neg (by omega)]
        rw [e]
        refine ⟨by rw [objNm, if_pos h2, outNm, hcond.1, hcond.2]; rfl, nameOf_ok _ _ (putText_small (nmLen16 hcond.1) (enLen8 hcond.2))⟩
      · rw [if_neg h2, decide_eq_true_eq] at hcond
        by_cases h0 : o.kind = 0
        · have h00 : o.tree.kind = 0 := hfile.elim (fun h => absurd h0 h) id
          have e : made o = nameOf 116 o.tree.data := by rw [made, if_pos h0]
          rw [e]
          exact ⟨by rw [objNm, if_neg h2, if_pos hcond, if_pos ⟨h0, h00⟩], nameOf_ok _ _ (by omega)⟩
        · have h1 : o.kind = 1 := by omega
          have e : made o = nameOf 102 o.tree.enc := by rw [made, if_neg h0, if_pos h1]
          rw [e]
          exact ⟨by rw [objNm, if_neg h2, if_pos hcond, if_neg (by omega), if_pos h1, hee], nameOf_ok _ _ (by omega)⟩
    exact ⟨ht, ⟨hlen, hasc, hall⟩, hmade ▸ hm.2, hm.1.trans hmade⟩
  · rintro ⟨ht, ⟨hlen, hasc, hall⟩, hn, hm⟩
    have hee : encOf o.tree = o.tree.enc := by rw [encOf, if_pos ht]
    have hne : objNm o ≠ [] := by
      intro h
      rw [← hm, h, nameOk_nil] at hn
      cases hn
    by_cases h2 : o.kind = 2
    · have e : objNm o = outNm o.frm o.out := by rw [objNm, if_pos h2]
      have hc : (nameOk o.frm && entryOk o.out) = true := by
        cases hc : (nameOk o.frm && entryOk o.out)
        · exact absurd (by rw [e, outNm, hc]; rfl) hne
        · rfl
      have e2 : made o = nameOf 111 (putText o.frm o.out) := by rw [made, if_neg (by omega), if_neg (by omega)]
      refine ⟨by omega, ht, hasc, hlen, by rw [if_pos h2]; exact hc, Or.inl (by omega), hall, ?_⟩
      rw [← hm, e, e2, outNm, hc]; rfl
    · by_cases hc : o.frm.length = 0 ∧ o.out.length = 0
      · by_cases h0 : o.kind = 0
        · by_cases h00 : o.tree.kind = 0
          · refine ⟨by omega, ht, hasc, hlen, by rw [if_neg h2]; exact decide_eq_true hc, Or.inr h00, hall, ?_⟩
            rw [← hm, made, if_pos h0, objNm, if_neg h2, if_pos hc, if_pos ⟨h0, h00⟩]
          · exact absurd (by rw [objNm, if_neg h2, if_pos hc, if_neg (fun h => h00 h.2), if_neg (by omega)]) hne
        · by_cases h1 : o.kind = 1
          · refine ⟨by omega, ht, hasc, hlen, by rw [if_neg h2]; exact decide_eq_true hc, Or.inl h0, hall, ?_⟩
            rw [← hm, made, if_neg h0, if_pos h1, objNm, if_neg h2, if_pos hc, if_neg (fun h => h0 h.1), if_pos h1, hee]
          · exact absurd (by rw [objNm, if_neg h2, if_pos hc, if_neg (fun h => h0 h.1), if_neg h1]) hne
      · exact absurd (by rw [objNm, if_neg h2, if_neg hc]) hne

end Go.Proofs.YtmhapnlgakkljaaGreatDoor
