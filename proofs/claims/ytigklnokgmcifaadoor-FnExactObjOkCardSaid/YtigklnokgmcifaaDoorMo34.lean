/-
  Parts of the proof: At4, BytsOk, LoopN, ObjP.
-/
import Derived.Test.YtigklnokgmcifaaDoorMo33
import Derived.Test.YtigklnokgmcifaaDoorMo12
import Derived.Test.YtigklnokgmcifaaDoorMo8
import Derived.Laws.BytesArg
import Derived.IntWalk
import Derived.Deep.QuietTactic
import Derived.BigQuiet
import Derived.Deep.Cut
import Derived.Deep.DeepCutAuto
import Derived.Deep.CutBlock
import Derived.Test.YtigklnokgmcifaaDoorMo16

/-
  The model's l4at: where a name's object is.
-/
namespace Go.Proofs.YtigklnokgmcifaaDoor
open Go.RowKit
set_option linter.unusedVariables false

theorem obj_byt {s : DStore} (hok : oks s.cells) {j : Nat} (hj : j < s.objs.length) : oks (s.objs[j]).cells := ((DStore.oks_iff s).1 hok).1 _ (List.getElem_mem hj)
theorem objName_byt {s : DStore} (hok : oks s.cells) {j : Nat} (hj : j < s.objs.length) : Byt (s.objs[j]).name := ((DObj.oks_iff _).1 (obj_byt hok hj)).1

end Go.Proofs.YtigklnokgmcifaaDoor


/-
  The bytes of a tree are bytes.
-/
namespace Go.Proofs.YtigklnokgmcifaaDoor
open Go.RowKit
set_option linter.unusedVariables false

theorem T.bytss_of {ks : List T} (h : ∀ t ∈ ks, t.Byts) : T.Bytss ks := by
  induction ks with
  | nil => rw [T.Bytss]; trivial
  | cons t r ih => rw [T.Bytss]; exact ⟨h t (List.mem_cons_self ..), ih fun t ht => h t (List.mem_cons_of_mem _ ht)⟩
theorem T.byts_of : ∀ (t : T), oks t.cells → t.Byts := by
  intro t
  induction t using T.ind with
  | h k d ns ks ih =>
    intro h
    obtain ⟨_, h2, h3, h4⟩ := (T.oks_iff _).1 h
    rw [T.Byts]
    exact ⟨h2, h3, T.bytss_of fun t ht => ih t ht (h4 t ht)⟩
theorem T.encs_byt (ks : List T) (ih : ∀ t ∈ ks, ∀ d, t.okAt d = true → t.Byts → Byt t.enc) {d : Nat} (hk : ∀ t ∈ ks, t.okAt d = true) (hb : T.Bytss ks) (ns : List (List Int)) (hn : BytN ns) : Byt (T.encs ks ns) := by
  induction ks generalizing ns with
  | nil => rw [T.encs]; exact fun x hx => by cases hx
  | cons t r ihr =>
    rw [T.Bytss] at hb
    rw [T.encs]
    refine ((txt_byt ?_).app (ih t (List.mem_cons_self ..) d (hk t (List.mem_cons_self ..)) hb.1)).app (ihr (fun t ht => ih t (List.mem_cons_of_mem _ ht)) (fun t ht => hk t (List.mem_cons_of_mem _ ht)) hb.2 _ ?_)
    · cases ns with
      | nil => exact fun x hx => by cases hx
      | cons n r => exact hn n (List.mem_cons_self ..)
    · cases ns with
      | nil => exact hn
      | cons n r => exact fun x hx => hn x (List.mem_cons_of_mem _ hx)
theorem T.enc_byt : ∀ (t : T) {d : Nat}, t.okAt d = true → t.Byts → Byt t.enc := by
  intro t
  induction t using T.ind with
  | h k d ns ks ih =>
    intro deep h hb
    obtain ⟨h1, h2⟩ := okAt_parts h
    rw [T.Byts] at hb
    rw [T.enc]
    by_cases hk : k = 2
    · subst hk
      obtain ⟨a, b, c, e⟩ := nodeOk_dir h1
      rw [if_pos rfl]
      exact (Byt.one (by omega) (by omega)).app ((Byt.one (by omega) (by omega)).app (T.encs_byt ks (fun t ht d hd hbt => ih t ht hd hbt) h2 hb.2.2 ns hb.2.1))
    · obtain ⟨a, b, c, e, f⟩ := nodeOk_file hk h1
      rw [if_neg hk]
      exact (Byt.one (by omega) (by omega)).app (txt_byt hb.1)
theorem T.dats_byt (ks : List T) (ih : ∀ t ∈ ks, t.Byts → Byt t.dat) (hb : T.Bytss ks) : Byt (T.dats ks) := by
  induction ks with
  | nil => rw [T.dats]; exact fun x hx => by cases hx
  | cons t r ihr =>
    rw [T.Bytss] at hb
    rw [T.dats]
    exact (ih t (List.mem_cons_self ..) hb.1).app (ihr (fun t ht => ih t (List.mem_cons_of_mem _ ht)) hb.2)
theorem T.dat_byt : ∀ (t : T), t.Byts → Byt t.dat := by
  intro t
  induction t using T.ind with
  | h k d ns ks ih =>
    intro hb
    rw [T.Byts] at hb
    rw [T.dat]
    exact hb.1.app (T.dats_byt ks ih hb.2.2)
end Go.Proofs.YtigklnokgmcifaaDoor


/-
  A loop over a valid tree's nodes whose body never leaves it.
-/
namespace Go.Proofs.YtigklnokgmcifaaDoor
open Go.RowKit Go.Shelf
set_option linter.unusedVariables false
attribute [local go_sem] Oper.semAt_some

theorem good_of {w0 : World} {t : T} (hv : treeOk t = true) {xs : List (Nd w0)} (h : xs.map Nd.key <+: t.pre 0 []) : (∀ y ∈ xs, y.good) ∧ xs.length ≤ 40 := by
  rw [treeOk, Bool.and_eq_true, decide_eq_true_eq] at hv
  refine ⟨fun y hy => (T.pre_ok t 0 []).1 hv.1 y.key (h.subset (List.mem_map.2 ⟨y, hy, rfl⟩)), ?_⟩
  have := h.length_le
  rw [List.length_map, T.pre_len] at this
  omega
theorem len_of {w0 : World} {t : T} {xs : List (Nd w0)} (h : xs.map Nd.key = t.pre 0 []) : xs.length = t.size := by rw [← T.pre_len t 0 [], ← h, List.length_map]

theorem nodesLoop {g : Operand} {ps : Array Tmp} {assign body : Code} {Q : Exit → Act → World → Prop} {a : Act} {W0 : World} {gb : Nat} (w0 : World) (x : Nd w0) (hs : x.s = 0) (hn : x.nm = []) (hv : x.v = .slice none 0 0)
    (hg : a.eval g = .func (.func 96) #[] #[.pointer (some ⟨gb, 0, none⟩)]) (hbox : C4 W0 gb 33 (.int .i64 x.q.k) x.q.d x.q.n x.q.c) (hw0 : Below w0.heap.size w0 W0) (hps : ps.size = 1)
    (I : List (Nd w0) → World → Prop) (hIs : ∀ pre W W', I pre W → Below W.heap.size W W' → I pre W') (hIp : ∀ pre W l r o, I pre W → W.heap[l]? = some (Obj.loop r) → w0.heap.size ≤ l → I pre (W.putObj l o))
    (hIg : ∀ pre W, I pre W → ∀ y ∈ pre, y.good) (h0 : I [] W0)
    (M : Nd w0 → Act → World → Prop) (hMp : ∀ y a' W l r o, M y a' W → W.heap[l]? = some (Obj.loop r) → M y a' (W.putObj l o))
    (hassign : ∀ l pre y W, I pre W → W0.heap.size + 1 < W.heap.size → Below w0.heap.size w0 W → assign.wpIn (Fence.wide.inRound l) 0 Tryd.prog (Exit.then (fun a' Wa => Below W.heap.size W Wa ∧ M y a' Wa) (fun _ _ _ => False)) { tmps := (ps.zip #[y.val]).foldl (fun t (p, v) => t.setIfInBounds p v) a.tmps, defers := [] } W)
    (hbody : ∀ l pre y a' W, W0.heap.size ≤ l → I pre W → M y a' W → Below w0.heap.size w0 W → pre.map Nd.key ++ [y.key] <+: x.t.pre 0 [] → body.wpIn (Fence.wide.inRound l) 0 Tryd.prog (fun e _ W' => e = .normal ∧ KeepsFrom W0.heap.size W W' ∧ Holds w0.heap.size W W' ∧ I (pre ++ [y]) W') a' W)
    (hdone : ∀ xs W, xs.map Nd.key = x.t.pre 0 [] → I xs W → W.heap[W0.heap.size]? = some (.deferred (some [])) → Q .normal { a with defers := { target := .collected W0.heap.size, args := #[] } :: a.defers } W) :
    (Code.rangeFunc g ps assign body).wpIn Fence.wide 6 Tryd.prog Q a W0 := by
  refine rangeF (F := Fence.wide) (T := fun W => ∃ xs : List (Nd w0), xs.map Nd.key = x.t.pre 0 [] ∧ I xs W) (X := fun _ _ => False)
    rfl (by omega) hg trivial (enters_of Tryd.func96 (by kernel_rfl) rfl) ?hit ?done ?stop
  case hit =>
    intro r W1 hfn htm hpr has hbd hrec hb1 hz1
    refine callsIn_wide.2 ((nodes1 w0 x hs hn hv (W0.heap.size + 1) (fun pre W => I pre W ∧ RecAt W W0.heap.size r .ready none) (fun _ _ => False)
      (fun pre W W' h hb => ⟨hIs pre W W' h.1 hb, h.2.keep (KeepsFrom.below hb)⟩) (fun pre W h => hIg pre W h.1) ?round W1 gb (hbox.step hb1) (hw0.trans (hb1.mono hw0.size)) ⟨hIs [] W0 W1 h0 hb1, hrec⟩).mono ?after)
    case after =>
      rintro e W2 ⟨hv, ⟨xs, h1, h2, h3⟩ | ⟨xs, h1, h2⟩⟩
      · exact ⟨hv, .inl ⟨⟨xs, h1, h2⟩, h3⟩⟩
      · exact h2.elim
    case round =>
      rintro pre y W ⟨hI, hr⟩ hpre hbw
      have hln := hw0.size
      refine YieldAt.mono (oneRound (F := Fence.wide) (m := 0) (M := fun a' Wa => M y a' Wa ∧ I pre Wa ∧ Below W.heap.size W Wa)
        (T := fun W' => I (pre ++ [y]) W' ∧ Holds w0.heap.size W W') (X := fun _ _ => False) hfn hr (by rw [hpr, hps]; rfl) ?assign ?body) ?post
      case post =>
        rintro e W' (⟨rfl, ⟨h1, h2⟩, h3⟩ | ⟨rfl, c, h1, h3⟩)
        · exact .inl ⟨rfl, ⟨h1, h3⟩, h2⟩
        · exact h1.elim
      case assign =>
        rw [has, htm, hpr]
        refine wpIn_mono (hassign (W0.heap.size + 1) pre y W hI hr.lt hbw) ?_
        intro e a' Wa h
        cases e with
        | normal => exact ⟨KeepsFrom.below h.1, h.2, hIs pre W Wa hI h.1, h.1⟩
        | _ => exact h
      case body =>
        rintro a' Wa ⟨hM, hIa, hba⟩ hra Wb hWb
        have hrb : RecAt Wb W0.heap.size r .busy none := by rw [hWb]; exact hra.put .busy none
        have hIb : I pre Wb := by rw [hWb]; exact hIp pre Wa _ _ _ hIa hra.rcd (by omega)
        have hMb : M y a' Wb := by rw [hWb]; exact hMp y a' Wa _ _ _ hM hra.rcd
        have hHb : Holds w0.heap.size W Wb := by rw [hWb]; exact (Holds.of_below hba hbw.size).trans (Holds.put hra.rcd (by omega) _)
        rw [hbd]
        refine wpIn_mono (hbody (W0.heap.size + 1) pre y a' Wb (by omega) hIb hMb (hbw.trans hHb.below) hpre) ?_
        rintro e a2 W2 ⟨rfl, hk, hh, hi⟩
        have hr2 := hrb.keep hk
        refine ⟨hk, ?_⟩
        rw [← hbd]
        exact ⟨hIp _ _ _ _ _ hi hr2.rcd (by omega), (hHb.trans hh).trans (Holds.put hr2.rcd (by omega) _)⟩
  case done =>
    rintro W2 r st pe ⟨xs, h1, hI⟩ hrec W3 hW3 hK
    have hln := hw0.size
    exact hdone xs W3 h1 (by rw [hW3]; exact hIp _ _ _ _ _ hI hrec.rcd (by omega)) hK
  case stop =>
    intro W2 r st pe c h
    exact h.elim

end Go.Proofs.YtigklnokgmcifaaDoor


/-
  The validity of an object, as the program decides it: the same.
-/
namespace Go.Proofs.YtigklnokgmcifaaDoor
open Go.RowKit
set_option linter.unusedVariables false
set_option linter.unusedSimpArgs false

theorem ltr_lidx : ∀ k : Fin 32, lidx (ltr k.val) = k.val := by decide +kernel
theorem b32_good (b : List Int) : ∀ x ∈ b32 b, 0 ≤ lidx x := by
  intro x hx
  obtain ⟨y, hy, rfl⟩ := List.mem_map.1 hx
  have h1 := grp_lt b 0 y hy
  obtain ⟨k, rfl⟩ := Int.eq_ofNat_of_zero_le h1.1
  rw [ltr_lidx ⟨k, by omega⟩]
  exact h1.1
theorem nameOk_ten (x : List Int) (h : x.length = 10) : nameOk (b32 x) = true := by
  have hl : (b32 x).length = 16 := by rw [b32_len, h]
  rw [nameOk, hl, okFrom, List.drop_zero, List.all_eq_true.2 fun y hy => decide_eq_true (b32_good x y hy)]
  rfl
theorem nameOf_ok (k : Int) (l : List Int) (h : l.length ≤ 90000) : nameOk (nameOf k l) = true := by
  rw [nameOf, if_neg (by omega)]
  exact nameOk_ten _ (sha10_len _)

/-- The name that an object has, by what it is; [] if there is none. -/
def objNm (o : DObj) : List Int :=
  if o.kind = 2 then outNm o.frm o.out
  else if o.frm.length = 0 ∧ o.out.length = 0 then (if o.kind = 0 ∧ o.tree.kind = 0 then nameOf 116 o.tree.data else if o.kind = 1 then nameOf 102 (encOf o.tree) else [])
  else []
def refsFit (o : DObj) : Bool := decide (o.refs.length ≤ 24) && decide ((scanOf o.tree.dat o.refs).length = o.refs.length)

theorem scan_all (b : List Int) (ns : List (List Int)) : (scanOf b ns).length = ns.length ↔ ascP nameOk ns = true ∧ ns.all (fun r => contL b r) = true := by
  unfold scanOf scanL
  split
  · rename_i h
    rw [List.length_filter_eq_length_iff, List.all_eq_true]
    exact ⟨fun h1 => ⟨h, h1⟩, fun h1 => h1.2⟩
  · rename_i h
    constructor
    · intro h1
      have : ns = [] := List.eq_nil_of_length_eq_zero h1.symm
      rw [this] at h
      exact absurd rfl h
    · intro h1
      exact absurd h1.1 h
theorem nameOk_nil : nameOk [] = false := rfl

theorem objOk_prog (o : DObj) : objOk o = (treeOk o.tree && (refsFit o && (nameOk o.name && decide (objNm o = o.name)))) := by
  rw [Bool.eq_iff_iff]
  unfold objOk refsFit
  simp only [Bool.and_eq_true, decide_eq_true_eq, Bool.not_eq_true', Bool.and_eq_false_iff, decide_eq_false_iff_not, Decidable.not_not, Bool.not_eq_false']
  rw [scan_all]
  constructor
  · rintro ⟨hk, ht, hasc, hlen, hcond, hfile, hall, hmade⟩
    have hd := treeOk_data ht
    have he := treeOk_enc ht
    have hee : encOf o.tree = o.tree.enc := by rw [encOf, if_pos ht]
    have hm : objNm o = made o ∧ nameOk (made o) = true := by
      by_cases h2 : o.kind = 2
      · rw [if_pos h2, Bool.and_eq_true] at hcond
        have e : made o = nameOf 111 (putText o.frm o.out) := by rw [made, if_neg (by omega), if_neg (by omega)]
        rw [e]
        refine ⟨by rw [objNm, if_pos h2, outNm, hcond.1, hcond.2]; rfl, nameOf_ok _ _ (putText_small (nmLen16 hcond.1) (enLen8 hcond.2))⟩
      · rw [if_neg h2, decide_eq_true_eq] at hcond
        by_cases h0 : o.kind = 0
        · have h00 : o.tree.kind = 0 := hfile.elim (fun h => absurd h0 h) id
          have e : made o = nameOf 116 o.tree.data := by rw [made, if_pos h0]
          rw [e]
          exact ⟨by rw [objNm, if_neg h2, if_pos hcond, if_pos ⟨h0, h00⟩], nameOf_ok _ _ (by omega)⟩
        · have h1 : o.kind = 1 := by omega
          have e : made o = nameOf 102 o.tree.enc := by rw [made, if_neg h0, if_pos h1]
          rw [e]
          exact ⟨by rw [objNm, if_neg h2, if_pos hcond, if_neg (by omega), if_pos h1, hee], nameOf_ok _ _ (by omega)⟩
    exact ⟨ht, ⟨hlen, hasc, hall⟩, hmade ▸ hm.2, hm.1.trans hmade⟩
  · rintro ⟨ht, ⟨hlen, hasc, hall⟩, hn, hm⟩
    have hee : encOf o.tree = o.tree.enc := by rw [encOf, if_pos ht]
    have hne : objNm o ≠ [] := by
      intro h
      rw [← hm, h, nameOk_nil] at hn
      cases hn
    by_cases h2 : o.kind = 2
    · have e : objNm o = outNm o.frm o.out := by rw [objNm, if_pos h2]
      have hc : (nameOk o.frm && entryOk o.out) = true := by
        cases hc : (nameOk o.frm && entryOk o.out)
        · exact absurd (by rw [e, outNm, hc]; rfl) hne
        · rfl
      have e2 : made o = nameOf 111 (putText o.frm o.out) := by rw [made, if_neg (by omega), if_neg (by omega)]
      refine ⟨by omega, ht, hasc, hlen, by rw [if_pos h2]; exact hc, Or.inl (by omega), hall, ?_⟩
      rw [← hm, e, e2, outNm, hc]; rfl
    · by_cases hc : o.frm.length = 0 ∧ o.out.length = 0
      · by_cases h0 : o.kind = 0
        · by_cases h00 : o.tree.kind = 0
          · refine ⟨by omega, ht, hasc, hlen, by rw [if_neg h2]; exact decide_eq_true hc, Or.inr h00, hall, ?_⟩
            rw [← hm, made, if_pos h0, objNm, if_neg h2, if_pos hc, if_pos ⟨h0, h00⟩]
          · exact absurd (by rw [objNm, if_neg h2, if_pos hc, if_neg (fun h => h00 h.2), if_neg (by omega)]) hne
        · by_cases h1 : o.kind = 1
          · refine ⟨by omega, ht, hasc, hlen, by rw [if_neg h2]; exact decide_eq_true hc, Or.inl h0, hall, ?_⟩
            rw [← hm, made, if_neg h0, if_pos h1, objNm, if_neg h2, if_pos hc, if_neg (fun h => h0 h.1), if_pos h1, hee]
          · exact absurd (by rw [objNm, if_neg h2, if_pos hc, if_neg (fun h => h0 h.1), if_neg h1]) hne
      · exact absurd (by rw [objNm, if_neg h2, if_neg hc]) hne

end Go.Proofs.YtigklnokgmcifaaDoor
