/- slices.Clone of a row that reads, of strings, words and numbers: a row of the call's own. Condition: rows of at most 2^38 elements. A region that draws its order: a load may be taken first where no operation that comes before it writes its cell: the stores that do wait for it. In the make of the library's 'a load may be taken first where nobody in the region writes its cell', with one operation, number s, behind which nothing is asked any more. No program's function. A view that a call made: Learn. Condition: rows of at most 2^38 elements. Rows of what is known of cells: such as came in, and such as are the call's own; eleven cells an element. No condition. The chapter's example, of a view that a call made. No condition. -/
import Derived.Test.YtgaacoeggikbpaaFvMade
import Derived.Test.YtgaacoeggikbpaaShelf
import Derived.Deep.AppendLies
import Derived.Laws.AppendOwnNone
import Derived.Test.YtgaacoeggikbpaaRows
import Derived.OrdersHeld
import Derived.Deep.RegionHeld
import Derived.Deep.QuietTactic
import Derived.BigQuiet
namespace Go.Proofs.Ytgaacoeggikbpaa
open Go.RowKit Go.Maps

/-- What a clone gives. -/
def Cloned (w w' : World) (e : Ending) (t : TypeId) (xs : List Value) : Prop := ∃ v, e = .returned v ∧ OwnT w' w.heap.size t v xs ∧ Below w.heap.size w w'
theorem fvInfoU64 : (Try.prog.info? 30).map (fun i => (i.zero, i.size, i.bytes)) = some (some (.int .u64 0), 1, 8) := by kernel_rfl
end Go.Proofs.Ytgaacoeggikbpaa

namespace Go.Proofs.Ytgaacoeggikbpaa


section
variable {P : Program} {ops : Array Oper} {Q : Exit → Act → World → Prop} {md : Region.Mode} {S : World → Prop} {s : Nat}

/-- Whatever order is picked from here on, and S holds behind every operation, till number s has come up. -/
def wpAnyS (P : Program) (md : Region.Mode) (ops : Array Oper) (Q : Exit → Act → World → Prop) (S : World → Prop) (s : Nat) : Nat → Array Bool → Act → World → Prop
  | 0, listed, a, w => Region.ready md ops listed = [] ∧ Q .normal a w
  | fuel + 1, listed, a, w =>
    (Region.ready md ops listed = [] → Q .normal a w) ∧
    ∀ i ∈ Region.ready md ops listed, wpOp P ops Q i (fun a' w' => ((listed.setIfInBounds i true).getD s true = false → S w') ∧ wpAnyS P md ops Q S s fuel (listed.setIfInBounds i true) a' w') a w

theorem wpAny_of_till : ∀ (fuel : Nat) (listed : Array Bool) (a : Act) (w : World), wpAnyS P md ops Q S s fuel listed a w → wpAny P md ops Q fuel listed a w
  | 0, _, _, _, h => h
  | fuel + 1, _, _, _, h => ⟨h.1, fun i hi => wpOp_mono (fun a' w' h' => wpAny_of_till fuel _ a' w' h'.2) (h.2 i hi)⟩

theorem wpAnyS_first {i : Nat} {oi : Oper} {v : Value} (hi : ops[i]? = some oi) (hsel : ∀ (j : Nat) (o : Oper) cs b, ops[j]? = some o → o.op ≠ .select cs b)
    (hQ : ∀ c a w, Q (.panic c) (a.put oi.dst v) w → Q (.panic c) a w) (D : List Nat) (hsD : s ∈ D) (hD : ∀ d ∈ D, ∃ od, ops[d]? = some od ∧ ∃ e ∈ od.after, Region.binds md e = true ∧ (e.on = i ∨ e.on ∈ D)) (his : i ≠ s) :
    ∀ (fuel : Nat) (listed : Array Bool) (a : Act) (w : World),
      (∀ j oj, ops[j]? = some oj → j ≠ i → listed.getD j true = false → (∀ e ∈ oj.after, Region.binds md e = true → e.on ≠ i) → oi.apart ops oj = true) →
      i ∈ Region.ready md ops listed → (∀ d ∈ D, listed.getD d true = false) → YieldsIf P ops S oi v a → S w →
      wpAnyS P md ops Q S s fuel (listed.setIfInBounds i true) (a.put oi.dst v) w → wpAnyS P md ops Q S s (fuel + 1) listed a w := by
  intro fuel
  induction fuel with
  | zero =>
    intro listed a w _ hr hls hy hS H
    refine ⟨fun h => (by rw [h] at hr; cases hr), fun j hj => ?_⟩
    by_cases hji : j = i
    · subst hji; exact hy.wpOp hi hS ⟨fun _ => hS, H⟩
    · have := ready_mono hj hji
      rw [H.1] at this
      cases this
  | succ fuel ih =>
    intro listed a w hfree hr hls hy hS H
    refine ⟨fun h => (by rw [h] at hr; cases hr), fun j hj => ?_⟩
    by_cases hji : j = i
    · subst hji; exact hy.wpOp hi hS ⟨fun _ => hS, H⟩
    · have h1 := H.2 j (ready_mono hj hji)
      obtain ⟨hjun, oj, hoj, hall⟩ := mem_ready.1 hj
      have hnot : ∀ e ∈ oj.after, Region.binds md e = true → e.on ≠ i := fun e he hb heq => by
        have h1 := hall e he hb
        have h0 := (mem_ready.1 hr).1
        rw [heq] at h1
        rcases Nat.lt_or_ge i listed.size with h' | h'
        · simp [h'] at h0 h1; rw [h0] at h1; cases h1
        · simp [Array.getElem?_eq_none h'] at h1
      have hjD : j ∉ D := fun hm => by
        obtain ⟨od, hod, e, he, hb, heq⟩ := hD j hm
        rw [hod] at hoj
        injection hoj with hoj
        subst hoj
        rcases heq with heq | heq
        · exact hnot e he hb heq
        · have h5 := hall e he hb
          have h6 := hls _ heq
          rcases Nat.lt_or_ge e.on listed.size with h' | h'
          · simp [h'] at h5 h6; rw [h6] at h5; cases h5
          · simp [Array.getElem?_eq_none h'] at h5
      have hjs : j ≠ s := fun e => hjD (by rw [e]; exact hsD)
      have h2 := wpOp_putIf hoj (hfree j oj hoj hji hjun hnot) (fun cs b => hsel i oi cs b hi) (fun cs b => hsel j oj cs b hoj) hQ hy h1
      have hfree' : ∀ k ok, ops[k]? = some ok → k ≠ i → (listed.setIfInBounds j true).getD k true = false →
          (∀ e ∈ ok.after, Region.binds md e = true → e.on ≠ i) → oi.apart ops ok = true := fun k ok hk hki hun hno => by
        refine hfree k ok hk hki ?_ hno
        by_cases hjk : j = k
        · subst hjk; exact hjun
        · rw [getD_set_ne true hjk] at hun; exact hun
      have hlj : ∀ d ∈ D, (listed.setIfInBounds j true).getD d true = false := fun d hd => by rw [getD_set_ne true (fun e => hjD (by rw [e]; exact hd))]; exact hls d hd
      have hlij : ((listed.setIfInBounds i true).setIfInBounds j true).getD s true = false := by rw [getD_set_ne true hjs, getD_set_ne true his]; exact hls s hsD
      refine wpOp_mono (fun a' w' h3 => ⟨fun _ => h3.2.1 hlij, ih (listed.setIfInBounds j true) a' w' hfree' (ready_mono hr (Ne.symm hji)) hlj h3.1 (h3.2.1 hlij) ?_⟩) h2
      rw [Array.setIfInBounds_comm _ _ hji]
      exact h3.2.2

def chained (md : Region.Mode) (ops : Array Oper) (D : List Nat) (i : Nat) : Bool := D.all fun d => match ops[d]? with | some od => od.after.any (fun e => Region.binds md e && (e.on == i || D.contains e.on)) | none => false

/-- Take number i first: number s waits for it, by the chain D. -/
theorem wpAnyS_take (i : Nat) (d : Option Nat) (D : List Nat) {oi : Oper} {v : Value} {fuel : Nat} {listed : Array Bool} {a : Act} {w : World} (hi : ops[i]? = some oi) (hd : oi.dst = d)
    (hs : Region.noSelect ops = true) (hf : Region.free md ops listed i = true) (hr : (Region.ready md ops listed).contains i = true)
    (hw : chained md ops D i = true) (hsD : D.contains s = true) (his : decide (i ≠ s) = true) (hls : (D.all fun d => listed.getD d true == false) = true)
    (hQ : ∀ c a w, Q (.panic c) (a.put d v) w → Q (.panic c) a w) (hwt : Region.wanted oi (yielded ops a.tmps) = true) (hy : ∀ w, S w → (execOp a.eval oi).run P w = .ok (.value v) w) (hS : S w)
    (h : wpAnyS P md ops Q S s fuel (listed.setIfInBounds i true) (a.put d v) w) : wpAnyS P md ops Q S s (fuel + 1) listed a w := by
  subst hd
  refine wpAnyS_first hi (Region.noSelect_spec hs) hQ D (by simpa using hsD) (fun d hd => ?_) (of_decide_eq_true his) fuel listed a w (Region.free_spec hi hf) (by simpa using hr) (fun d hd => by have := List.all_eq_true.1 hls d hd; simpa using this) (Or.inl ⟨hwt, hy⟩) hS h
  have h1 := List.all_eq_true.1 hw d hd
  split at h1
  · rename_i od hod
    obtain ⟨e, he, h2⟩ := Array.any_eq_true'.1 h1
    simp only [Bool.and_eq_true, Bool.or_eq_true, beq_iff_eq, List.contains_iff_mem] at h2
    exact ⟨od, hod, e, he, h2.1, h2.2⟩
  · cases h1

def AllReadyS (P : Program) (md : Region.Mode) (ops : Array Oper) (Q : Exit → Act → World → Prop) (S : World → Prop) (s : Nat) (fuel : Nat) (listed : Array Bool) (a : Act) (w : World) (rs : List Nat) : Prop :=
  ∀ i ∈ rs, wpOp P ops Q i (fun a' w' => ((listed.setIfInBounds i true).getD s true = false → S w') ∧ wpAnyS P md ops Q S s fuel (listed.setIfInBounds i true) a' w') a w
theorem AllReadyS.nil {fuel : Nat} {listed : Array Bool} {a : Act} {w : World} : AllReadyS P md ops Q S s fuel listed a w [] := fun _ h => by cases h
theorem AllReadyS.cons {fuel : Nat} {listed : Array Bool} {a : Act} {w : World} {i : Nat} {o : Oper} {rs : List Nat} (ho : ops[i]? = some o)
    (h : ∀ K' : Act → World → Prop, Shut (∀ a w, ((listed.setIfInBounds i true).getD s true = false → S w) → wpAnyS P md ops Q S s fuel (listed.setIfInBounds i true) a w → K' a w) → if Region.wanted o (yielded ops a.tmps) = true then Oper.wp P o a w K' Q else K' (a.put o.dst undef) w)
    (hs : AllReadyS P md ops Q S s fuel listed a w rs) : AllReadyS P md ops Q S s fuel listed a w (i :: rs) := fun j hj => by
  rcases List.mem_cons.1 hj with rfl | hj
  · exact wpOp_step ho (fun K' hK => h K' (fun a w hS hW => hK a w ⟨hS, hW⟩))
  · exact hs j hj
theorem wpAnyS_ready (rs : List Nat) {fuel : Nat} {listed : Array Bool} {a : Act} {w : World} (hr : Region.ready md ops listed = rs) (hne : rs ≠ [])
    (h : AllReadyS P md ops Q S s fuel listed a w rs) : wpAnyS P md ops Q S s (fuel + 1) listed a w :=
  ⟨fun h0 => absurd (hr ▸ h0) hne, hr ▸ h⟩
theorem wpAnyS_done {listed : Array Bool} {a : Act} {w : World} (hr : Region.ready md ops listed = []) (h : Q .normal a w) :
    ∀ fuel, wpAnyS P md ops Q S s fuel listed a w
  | 0 => ⟨hr, h⟩
  | _ + 1 => ⟨fun _ => h, by rw [hr]; simp⟩
theorem wp_region_till (S : World → Prop) (s : Nat) {id : Nat} {a : Act} {w : World} (hm : P.follows .mixedOrders = true)
    (h : wpAnyS P .any ops Q S s ops.size (Array.replicate ops.size false) a w.drew) : (Code.region id ops true).wp P Q a w :=
  wp_region_any hm (wpAny_of_till _ _ _ _ h)
end
end Go.Proofs.Ytgaacoeggikbpaa

namespace Go.Proofs.Ytgaacoeggikbpaa
open Go.RowKit Go.Maps

section
variable {B A b N : Nat} {sv : Value} {ks : List Kn} {ss : List (Int × Int)} {k m : Int}
theorem Turn.through {S T : Nat → Prop} {a w w' : World} (h : Turn S a w) (ht : Turn T w w') (hn : ∀ j, T j → a.heap.size ≤ j) : Turn S a w' :=
  ⟨ht.os.trans h.os, ht.tape.trans h.tape, ht.output.trans h.output, Nat.le_trans h.size ht.size, fun k hk hs => (ht.block k (Nat.lt_of_lt_of_le hk h.size) (fun e => by have := hn k e; omega)).trans (h.block k hk hs)⟩
/-- The three rows of a known's box, as they came. -/
def Rows3 (g : Nat) (kv vv cv : Value) (V : World) : Prop := V.cell? ⟨g, 8, none⟩ = some kv ∧ V.cell? ⟨g, 9, none⟩ = some vv ∧ V.cell? ⟨g, 10, none⟩ = some cv
theorem wpAnyS_weak {P : Program} {ops : Array Oper} {Q : Exit → Act → World → Prop} {md : Region.Mode} {S : World → Prop} {s s' : Nat} : ∀ (fuel : Nat) (listed : Array Bool) (a : Act) (w : World), wpAnyS P md ops Q S s fuel listed a w → wpAnyS P md ops Q (fun _ => True) s' fuel listed a w
  | 0, _, _, _, h => h
  | fuel + 1, _, _, _, h => ⟨h.1, fun i hi => wpOp_mono (fun a' w' h' => ⟨fun _ => trivial, wpAnyS_weak fuel _ a' w' h'.2⟩) (h.2 i hi)⟩
end
end Go.Proofs.Ytgaacoeggikbpaa

namespace Go.Proofs.Ytgaacoeggikbpaa
open Go.RowKit Go.Maps

inductive All2 {α β : Type} (R : α → β → Prop) : List α → List β → Prop
  | nil : All2 R [] []
  | cons {a : α} {b : β} {l : List α} {m : List β} : R a b → All2 R l m → All2 R (a :: l) (b :: m)
theorem All2.append {α β : Type} {R : α → β → Prop} {l l2 : List α} {m m2 : List β} (h : All2 R l m) (h2 : All2 R l2 m2) : All2 R (l ++ l2) (m ++ m2) := by
  induction h with
  | nil => exact h2
  | cons hr _ ih => exact .cons hr ih
/-- The cells of one. -/
def Kn.cells (k : Kn) (kv vv cv : Value) : List Value := [.int .i64 k.c, .int .u64 k.wd, .int .u64 k.vr, .int .i64 k.n.lv, .string k.n.lo, .string k.n.hi, .bool k.n.la, .int .i64 k.n.nx, kv, vv, cv]
/-- Cells that are one's, its rows' values as P says. -/
def KL (P : Value → Value → Value → Kn → Prop) (l : List Value) (kn : Kn) : Prop :=
  ∃ (ak : Option Addr) (nk ck : Nat) (av : Option Addr) (nv cv : Nat) (ac : Option Addr) (nc cc : Nat), l = kn.cells (.slice ak nk ck) (.slice av nv cv) (.slice ac nc cc) ∧ P (.slice ak nk ck) (.slice av nv cv) (.slice ac nc cc) kn
/-- The rows of one read in a world. -/
def PV (w : World) (kv vv cv : Value) (kn : Kn) : Prop := KnV w (kn.val kv vv cv) kn
/-- They are the view's own. -/
def PO (w : World) (B : Nat) (kv vv cv : Value) (kn : Kn) : Prop := KnO w B (kn.val kv vv cv) kn
theorem KL.len {P : Value → Value → Value → Kn → Prop} {l : List Value} {kn : Kn} (h : KL P l kn) : l.length = 11 := by
  obtain ⟨_, _, _, _, _, _, _, _, _, rfl, _⟩ := h
  rfl
theorem KL.ones {P : Value → Value → Value → Kn → Prop} {l : List Value} {kn : Kn} (h : KL P l kn) : ∀ u ∈ l, u.oneCell' = true := by
  obtain ⟨_, _, _, _, _, _, _, _, _, rfl, _⟩ := h
  intro u hu
  simp only [Kn.cells, List.mem_cons, List.not_mem_nil, or_false] at hu
  rcases hu with rfl | rfl | rfl | rfl | rfl | rfl | rfl | rfl | rfl | rfl | rfl <;> rfl
def kAt (ks : List Kn) (j : Nat) : Kn := ks.getD j Kn.zero
theorem kAt_eq {ks : List Kn} {j : Nat} (h : j < ks.length) : kAt ks j = ks[j] := by
  unfold kAt
  rw [List.getD_eq_getElem?_getD, List.getElem?_eq_getElem h]
  rfl

/-- A slice value whose elements are these. -/
def KsAt (P : Value → Value → Value → Kn → Prop) (w : World) (v : Value) (ks : List Kn) : Prop :=
  ∃ (ao : Option Addr) (c : Nat), v = .slice ao ks.length c ∧ ks.length ≤ c ∧ c ≤ 9223372036854775807 ∧ (0 < ks.length → ∃ g o, ao = some ⟨g, o, none⟩ ∧ ∀ j, j < ks.length → ∃ l, KL P l (kAt ks j) ∧ ∀ i, i < 11 → w.cell? ⟨g, o + j * 11 + i, none⟩ = l[i]?)
theorem KsAt.nil (P : Value → Value → Value → Kn → Prop) (w : World) : KsAt P w (.slice none 0 0) [] := ⟨none, 0, rfl, Nat.le_refl _, by omega, fun h => absurd h (by simp)⟩
theorem KsAt.open {P : Value → Value → Value → Kn → Prop} {w : World} {v : Value} {ks : List Kn} (h : KsAt P w v ks) : ∃ ao c, v = .slice ao ks.length c := by
  obtain ⟨ao, c, e, _⟩ := h
  exact ⟨ao, c, e⟩
theorem KsAt.len {P : Value → Value → Value → Kn → Prop} {w : World} {ao : Option Addr} {n c : Nat} {ks : List Kn} (h : KsAt P w (.slice ao n c) ks) : n = ks.length ∧ n ≤ c ∧ c ≤ 9223372036854775807 := by
  obtain ⟨ao', c', e, h1, h2, _⟩ := h
  injection e with e1 e2 e3
  omega
theorem KsAt.keep {P : Value → Value → Value → Kn → Prop} {w w' : World} {v : Value} {ks : List Kn} (h : KsAt P w v ks) (hb : Below w.heap.size w w') : KsAt P w' v ks := by
  obtain ⟨ao, c, e, h1, h2, h3⟩ := h
  refine ⟨ao, c, e, h1, h2, fun hp => ?_⟩
  obtain ⟨g, o, e2, hc⟩ := h3 hp
  refine ⟨g, o, e2, fun j hj => ?_⟩
  obtain ⟨l, hl, hcc⟩ := hc j hj
  refine ⟨l, hl, fun i hi => ?_⟩
  have hlt : g < w.heap.size := by
    obtain ⟨x, hx⟩ : ∃ x, l[i]? = some x := ⟨_, List.getElem?_eq_getElem (by rw [hl.len]; exact hi)⟩
    exact World.block_lt_of_cell? w _ ((hcc i hi).trans hx)
  exact (hb.cell (p := ⟨g, o + j * 11 + i, none⟩) hlt).trans (hcc i hi)
/-- An element's cells. -/
theorem KsAt.get {P : Value → Value → Value → Kn → Prop} {w : World} {ao : Option Addr} {n c : Nat} {ks : List Kn} (h : KsAt P w (.slice ao n c) ks) {j : Nat} (hj : j < n) :
    ∃ (g o : Nat) (ak : Option Addr) (nk ck : Nat) (av : Option Addr) (nv cv : Nat) (ac : Option Addr) (nc cc : Nat), ao = some ⟨g, o, none⟩ ∧ P (.slice ak nk ck) (.slice av nv cv) (.slice ac nc cc) (kAt ks j) ∧
      ∀ V, Below w.heap.size w V → V.cell? ⟨g, o + j * 11, none⟩ = some (.int .i64 (kAt ks j).c) ∧ V.cell? ⟨g, o + j * 11 + 1, none⟩ = some (.int .u64 (kAt ks j).wd) ∧ V.cell? ⟨g, o + j * 11 + 2, none⟩ = some (.int .u64 (kAt ks j).vr) ∧ V.cell? ⟨g, o + j * 11 + 3, none⟩ = some (.int .i64 (kAt ks j).n.lv) ∧ V.cell? ⟨g, o + j * 11 + 4, none⟩ = some (.string (kAt ks j).n.lo) ∧ V.cell? ⟨g, o + j * 11 + 5, none⟩ = some (.string (kAt ks j).n.hi) ∧ V.cell? ⟨g, o + j * 11 + 6, none⟩ = some (.bool (kAt ks j).n.la) ∧ V.cell? ⟨g, o + j * 11 + 7, none⟩ = some (.int .i64 (kAt ks j).n.nx) ∧ V.cell? ⟨g, o + j * 11 + 8, none⟩ = some (.slice ak nk ck) ∧ V.cell? ⟨g, o + j * 11 + 9, none⟩ = some (.slice av nv cv) ∧ V.cell? ⟨g, o + j * 11 + 10, none⟩ = some (.slice ac nc cc) := by
  obtain ⟨ao', c', e, h1, h2, h3⟩ := h
  injection e with e1 e2 e3
  subst e1
  subst e2
  obtain ⟨g, o, e4, hc⟩ := h3 (by omega)
  obtain ⟨l, ⟨ak, nk, ck, av, nv, cv, ac, nc, cc, rfl, hP⟩, hcc⟩ := hc j hj
  refine ⟨g, o, ak, nk, ck, av, nv, cv, ac, nc, cc, e4, hP, fun V hV => ?_⟩
  have hlt : g < w.heap.size := World.block_lt_of_cell? w _ (hcc 0 (by omega))
  have hcv : ∀ i, i < 11 → V.cell? ⟨g, o + j * 11 + i, none⟩ = ((kAt ks j).cells (.slice ak nk ck) (.slice av nv cv) (.slice ac nc cc))[i]? := fun i hi => (hV.cell (p := ⟨g, o + j * 11 + i, none⟩) hlt).trans (hcc i hi)
  exact ⟨hcv 0 (by omega), hcv 1 (by omega), hcv 2 (by omega), hcv 3 (by omega), hcv 4 (by omega), hcv 5 (by omega), hcv 6 (by omega), hcv 7 (by omega), hcv 8 (by omega), hcv 9 (by omega), hcv 10 (by omega)⟩

/-- A row of the call's own. -/
def KsR (P : Value → Value → Value → Kn → Prop) (w : World) (B : Nat) (v : Value) (ks : List Kn) : Prop :=
  ∃ ls : List (List Value), All2 (KL P) ls ks ∧ w.ownsRow B 40 11 v ks.length ls.flatten
theorem KsR.nil (P : Value → Value → Value → Kn → Prop) (w : World) (B : Nat) : KsR P w B (.slice none 0 0) [] := ⟨[], .nil, World.ownsRow_nil _ _ _ _⟩
theorem KsR.open {P : Value → Value → Value → Kn → Prop} {w : World} {B : Nat} {v : Value} {ks : List Kn} (h : KsR P w B v ks) : ∃ ao c, v = .slice ao ks.length c := by
  obtain ⟨ls, _, h⟩ := h
  rcases h.2 with ⟨rfl, hz⟩ | ⟨g, cap, cur, rfl, _⟩
  · exact ⟨none, 0, by rw [hz]⟩
  · exact ⟨_, _, rfl⟩
theorem KsR.keep {P : Value → Value → Value → Kn → Prop} {w w' : World} {B : Nat} {v : Value} {ks : List Kn} (h : KsR P w B v ks) (hb : Below w.heap.size w w') : KsR P w' B v ks := by
  obtain ⟨ls, h1, h2⟩ := h
  exact ⟨ls, h1, fv_stays h2 hb⟩
theorem KsR.base {P : Value → Value → Value → Kn → Prop} {w : World} {B C : Nat} {v : Value} {ks : List Kn} (h : KsR P w B v ks) (hc : C ≤ B) : KsR P w C v ks := by
  obtain ⟨ls, h1, h2⟩ := h
  exact ⟨ls, h1, fv_base h2 hc⟩
theorem KsR.moved {P : Value → Value → Value → Kn → Prop} {S : Nat → Prop} {w w' : World} {B : Nat} {v : Value} {ks : List Kn} (h : KsR P w B v ks) (ht : Turn S w w') (hS : ∀ g cs, S g → w.heap[g]? = some (Obj.cells cs 40 (0, 0)) → False) : KsR P w' B v ks := by
  obtain ⟨ls, h1, h2⟩ := h
  exact ⟨ls, h1, fv_moved h2 (fun g cs hg => ht.block g (lt_of_block hg) (fun e => hS g cs e hg))⟩
theorem KL.mono {P Q : Value → Value → Value → Kn → Prop} {l : List Value} {kn : Kn} (h : KL P l kn) (hPQ : ∀ a b c, P a b c kn → Q a b c kn) : KL Q l kn := by
  obtain ⟨ak, nk, ck, av, nv, cv, ac, nc, cc, e, hP⟩ := h
  exact ⟨ak, nk, ck, av, nv, cv, ac, nc, cc, e, hPQ _ _ _ hP⟩
theorem KsR.mono {P Q : Value → Value → Value → Kn → Prop} {w : World} {B : Nat} {v : Value} {ks : List Kn} (h : KsR P w B v ks) (hPQ : ∀ a b c kn, P a b c kn → Q a b c kn) : KsR Q w B v ks := by
  obtain ⟨ls, h1, h2⟩ := h
  refine ⟨ls, ?_, h2⟩
  clear h2
  induction h1 with
  | nil => exact .nil
  | cons h _ ih => exact .cons (h.mono (fun a b c => hPQ a b c _)) ih
theorem ks_flat {P : Value → Value → Value → Kn → Prop} : ∀ {ls : List (List Value)} {ks : List Kn}, All2 (KL P) ls ks → ls.flatten.length = ks.length * 11 ∧ ls.length = ks.length ∧ (∀ u ∈ ls.flatten, u.oneCell' = true) ∧ ∀ j, j < ks.length → ∃ l, KL P l (kAt ks j) ∧ ∀ i, i < 11 → ls.flatten[j * 11 + i]? = l[i]? := by
  intro ls ks h
  induction h with
  | nil => exact ⟨rfl, rfl, (fun u hu => absurd hu (by simp)), (fun j hj => absurd hj (by simp))⟩
  | @cons l kn ls ks h hr ih =>
    obtain ⟨h1, h2, h3, h4⟩ := ih
    have hl := h.len
    refine ⟨by simp only [List.flatten_cons, List.length_append, List.length_cons, h1, hl]; omega, by simp [h2], fun u hu => ?_, fun j hj => ?_⟩
    · rw [List.flatten_cons] at hu
      rcases List.mem_append.1 hu with hu | hu
      · exact h.ones u hu
      · exact h3 u hu
    · rcases j with _ | j
      · refine ⟨l, h, fun i hi => ?_⟩
        rw [List.flatten_cons, Nat.zero_mul, Nat.zero_add, List.getElem?_append_left (by omega)]
      · obtain ⟨l2, hk, hc⟩ := h4 j (by simp at hj; omega)
        refine ⟨l2, hk, fun i hi => ?_⟩
        rw [List.flatten_cons, List.getElem?_append_right (by omega), hl, show (j + 1) * 11 + i - 11 = j * 11 + i by omega]
        exact hc i hi
theorem KsR.ks {P : Value → Value → Value → Kn → Prop} {w : World} {B : Nat} {v : Value} {ks : List Kn} (h : KsR P w B v ks) : KsAt P w v ks := by
  obtain ⟨ls, h1, h2⟩ := h
  obtain ⟨f1, f2, f3, f4⟩ := ks_flat h1
  rcases h2.2 with ⟨rfl, hz⟩ | ⟨g, cap, cur, rfl, hb, hg, hc1, hc2, hc3, hc4⟩
  · refine ⟨none, 0, by rw [hz], by omega, by omega, fun hp => by omega⟩
  · refine ⟨some ⟨g, 0, none⟩, cap, rfl, hc1, by unfold maxLen at hc2; omega, fun hp => ⟨g, 0, rfl, fun j hj => ?_⟩⟩
    obtain ⟨l, hl, hcc⟩ := f4 j hj
    refine ⟨l, hl, fun i hi => ?_⟩
    rw [← hcc i hi, ← hc4]
    have hlt : j * 11 + i < ks.length * 11 := by omega
    rw [List.getElem?_take_of_lt hlt]
    simp [World.cell?, hg, Nat.zero_add]
theorem KsR.add {P : Value → Value → Value → Kn → Prop} {w : World} {B : Nat} {v : Value} {ks : List Kn} {kn : Kn} {ls : List (List Value)} {l : List Value} (h1 : All2 (KL P) ls ks) (hl : KL P l kn) (h2 : w.ownsRow B 40 11 v (ks.length + 1) (ls.flatten ++ l)) : KsR P w B v (ks ++ [kn]) := by
  refine ⟨ls ++ [l], h1.append (.cons hl .nil), ?_⟩
  rw [List.length_append, List.flatten_append]
  simpa using h2
theorem fvInfoKn : (Try.prog.info? 40).map (fun i => (i.zero, i.size, i.bytes)) = some (some (.agg #[.int .i64 0, .int .u64 0, .int .u64 0, .int .i64 0, .string ⟨#[]⟩, .string ⟨#[]⟩, .bool false, .int .i64 0, .slice none 0 0, .slice none 0 0, .slice none 0 0]), 11, 152) := by kernel_rfl
end Go.Proofs.Ytgaacoeggikbpaa

namespace Go.Proofs.Ytgaacoeggikbpaa
open Go.RowKit Go.Maps

theorem PV.ndF {w : World} {ak av ac : Option Addr} {nk ck nv cv nc cc : Nat} {kn : Kn} (h : PV w (.slice ak nk ck) (.slice av nv cv) (.slice ac nc cc) kn) : nk = kn.n.ks.length ∧ nv = kn.n.vs.length ∧ nc = kn.n.cs.length ∧ NdAt w ak av ac nk ck nv cv nc cc kn.n.ks kn.n.vs kn.n.cs := by
  obtain ⟨ak', av', ac', ck', cv', cc', e, hN⟩ := h
  unfold Kn.val at e
  injection e with e
  injection e with e
  simp only [List.cons.injEq, Value.slice.injEq, and_true, true_and] at e
  obtain ⟨⟨rfl, rfl, rfl⟩, ⟨rfl, rfl, rfl⟩, rfl, rfl, rfl⟩ := e
  exact ⟨rfl, rfl, rfl, hN⟩
section
variable {B A b N : Nat} {sv : Value} {ks : List Kn} {ss : List (Int × Int)} {k m : Int}
end
def kn3 : Kn := ⟨3, 9, 0, .none⟩
theorem kn3_v (w : World) : KnV w (.agg #[.int .i64 3, .int .u64 9, .int .u64 0, .int .i64 0, .string ⟨#[]⟩, .string ⟨#[]⟩, .bool false, .int .i64 0, .slice none 0 0, .slice none 0 0, .slice none 0 0]) kn3 :=
  ⟨Option.none, Option.none, Option.none, 0, 0, 0, rfl, ⟨Rd.nil _, Rd.nil _, Rd.nil _⟩⟩
end Go.Proofs.Ytgaacoeggikbpaa
