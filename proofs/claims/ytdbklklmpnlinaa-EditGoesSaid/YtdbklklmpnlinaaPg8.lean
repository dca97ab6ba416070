/- An edit that a call began, as one thing: its view, its changes, the spares it took; what is known of a cell as it stands. No condition. No walk. Maps from numbers to counts, and to nodes. No condition but sizes. A range over a function whose iterator keeps a row and a map of its own, and whose body always goes on. No condition. What stays while a body of a range over a function turns one block alone. No condition. edit.isBegun, of, last, isCleared. No condition but that there are few changes. edit.isCleared; which spare that was taken is of a cell. No condition but that there are few. -/
import Derived.Test.YtdbklklmpnlinaaEdRow
import Derived.Test.YtdbklklmpnlinaaFvTake
import Derived.Test.YtdbklklmpnlinaaFvMade
import Derived.Maps.OwnOps
import Derived.RangeFuncNested
import Derived.RangeFuncBound
import Derived.RangeFuncCalls
import Derived.RangeFuncLeaves
import Derived.Shelf.Abstract
import Derived.Shelf.RegionOpen
import Derived.WalkKit
import Derived.OwnWalkIn
import Derived.TacticsInMore
import Derived.LoopNIn
import Derived.LoopIn
import Derived.Maps.OwnIn
import Derived.Maps.AppendAt
import Derived.Deep.QuietTactic
import Derived.BigQuiet
namespace Go.Proofs.Ytdbklklmpnlinaa
open Go.RowKit Go.Maps

/-- The blocks of an edit that may turn. -/
def ESet (E A b : Nat) (cv tv sv : Value) (g : Nat) : Prop := g = E ∨ VS A b sv g ∨ cv.ownBlock = some g ∨ tv.ownBlock = some g
/-- An edit that a call began: of a view, with changes, with spares taken. -/
structure ES (w : World) (B E A b : Nat) (cv tv sv : Value) (N : Nat) (ks : List Kn) (ss : List (Int × Int)) (k m : Int) (cs : List Ch) (ts : List (Int × Int)) : Prop where
  ed : BX w E 71 #[.pointer (some ⟨A, 0, none⟩), cv, tv]
  fv : FV w B A b sv N ks ss k m
  ch : CsR (PC w B) w B cv cs
  tk : w.ownsRow B 51 2 tv ts.length (spC ts)
  ge : B ≤ E
  ap : ∀ g, tv.ownBlock = some g → sv.ownBlock ≠ some g
theorem own_at9 {w w' : World} {B k n : Nat} {t : TypeId} {v : Value} {xs : List Value} (h : w.ownsRow B t k v n xs) (hh : ∀ g, v.ownBlock = some g → w'.heap[g]? = w.heap[g]?) : w'.ownsRow B t k v n xs := by
  refine ⟨h.1, ?_⟩
  rcases h.2 with hn | ⟨g, cap, cur, rfl, hbg, hg, rest⟩
  · exact Or.inl hn
  · exact Or.inr ⟨g, cap, cur, rfl, hbg, by rw [hh g rfl]; exact hg, rest⟩
theorem BX.type9 {w : World} {g : Nat} {t : TypeId} {cs : Array Value} (h : BX w g t cs) {cs' : Array Value} {t' : TypeId} (hg : w.heap[g]? = some (Obj.cells cs' t' (0, 0))) : t' = t := by
  unfold BX at h
  rw [h] at hg
  injection hg with hg
  injection hg with _ e _
  exact e.symm
section
variable {w w' : World} {B E A b N : Nat} {cv tv sv : Value} {ks : List Kn} {ss ts : List (Int × Int)} {k m : Int} {cs : List Ch}
theorem CsR.blk {P : Value → Value → Value → Ch → Prop} (h : CsR P w B cv cs) {g : Nat} (hg : cv.ownBlock = some g) : B ≤ g ∧ ∃ cs', w.heap[g]? = some (.cells cs' 97 (0, 0)) := by
  obtain ⟨_, _, h2⟩ := h
  exact fv_block h2 hg
theorem ES.off (h : ES w B E A b cv tv sv N ks ss k m cs ts) : Off w (ESet E A b cv tv sv) := by
  rintro g cs' t (rfl | hS | hS | hS) hg
  · rw [h.ed.type9 hg]; decide
  · exact h.fv.off g cs' t hS hg
  · obtain ⟨_, c2, e⟩ := h.ch.blk hS
    rw [e] at hg
    injection hg with hg
    injection hg with _ e2 _
    rw [← e2]; decide
  · obtain ⟨_, c2, e⟩ := fv_block h.tk hS
    rw [e] at hg
    injection hg with hg
    injection hg with _ e2 _
    rw [← e2]; decide
theorem ES.base (h : ES w B E A b cv tv sv N ks ss k m cs ts) : ∀ g, ESet E A b cv tv sv g → B ≤ g := by
  rintro g (rfl | hS | hS | hS)
  · exact h.ge
  · exact h.fv.base g hS
  · exact (h.ch.blk hS).1
  · exact (fv_block h.tk hS).1
theorem ES.lt (h : ES w B E A b cv tv sv N ks ss k m cs ts) : ∀ g, ESet E A b cv tv sv g → g < w.heap.size := by
  rintro g (rfl | hS | hS | hS)
  · exact lt_of_block h.ed
  · have h1 := h.fv.lt
    rcases hS with rfl | rfl | hS
    · exact h1.1
    · exact h1.2.1
    · exact h1.2.2 g hS
  · obtain ⟨_, c2, e⟩ := h.ch.blk hS
    exact lt_of_block e
  · obtain ⟨_, c2, e⟩ := fv_block h.tk hS
    exact lt_of_block e
theorem ES.size (h : ES w B E A b cv tv sv N ks ss k m cs ts) : B ≤ w.heap.size := h.fv.size
theorem ES.keep (h : ES w B E A b cv tv sv N ks ss k m cs ts) (hb : Below w.heap.size w w') : ES w' B E A b cv tv sv N ks ss k m cs ts :=
  ⟨h.ed.below hb, h.fv.keep hb, (h.ch.mono (fun _ _ _ _ hp => hp.keep hb)).keep hb, fv_stays h.tk hb, h.ge, h.ap⟩
theorem ES.not_vs (h : ES w B E A b cv tv sv N ks ss k m cs ts) : ¬ VS A b sv E := by
  rintro (e | e | e)
  · subst e
    have := h.ed.type9 h.fv.view
    exact absurd this (by decide)
  · subst e
    obtain ⟨D, ⟨es, cl, hb, _⟩, _⟩ := h.fv.map
    have := h.ed
    unfold BX at this
    rw [this] at hb
    injection hb with hb
    cases hb
  · obtain ⟨_, c2, e2⟩ := fv_block h.fv.sp e
    exact absurd (h.ed.type9 e2) (by decide)
theorem ES.tk_vs (h : ES w B E A b cv tv sv N ks ss k m cs ts) {g : Nat} (hg : tv.ownBlock = some g) : ¬ VS A b sv g ∧ g ≠ E := by
  obtain ⟨_, c2, e2⟩ := fv_block h.tk hg
  refine ⟨?_, fun e => ?_⟩
  · rintro (e | e | e)
    · subst e
      exact absurd (h.fv.view.type9 e2) (by decide)
    · subst e
      obtain ⟨D, ⟨es, cl, hb, _⟩, _⟩ := h.fv.map
      rw [e2] at hb
      injection hb with hb
      cases hb
    · exact h.ap g hg e
  · subst e
    exact absurd (h.ed.type9 e2) (by decide)
theorem ES.ch_vs (h : ES w B E A b cv tv sv N ks ss k m cs ts) {g : Nat} {c2 : Array Value} (e2 : w.heap[g]? = some (.cells c2 97 (0, 0))) : ¬ VS A b sv g ∧ g ≠ E ∧ tv.ownBlock ≠ some g := by
  refine ⟨?_, fun e => ?_, fun e => ?_⟩
  · rintro (e | e | e)
    · subst e
      exact absurd (h.fv.view.type9 e2) (by decide)
    · subst e
      obtain ⟨D, ⟨es, cl, hb, _⟩, _⟩ := h.fv.map
      rw [e2] at hb
      injection hb with hb
      cases hb
    · obtain ⟨_, c3, e3⟩ := fv_block h.fv.sp e
      rw [e2] at e3
      injection e3 with e3
      injection e3 with _ e3 _
      exact absurd e3 (by decide)
  · subst e
    exact absurd (h.ed.type9 e2) (by decide)
  · obtain ⟨_, c3, e3⟩ := fv_block h.tk e
    rw [e2] at e3
    injection e3 with e3
    injection e3 with _ e3 _
    exact absurd e3 (by decide)
/-- The view alone has turned. -/
theorem ES.view {N' : Nat} {ks' : List Kn} {k' m' : Int} (h : ES w B E A b cv tv sv N ks ss k m cs ts) (hf : FV w' B A b sv N' ks' ss k' m') (ht : Turn (VS A b sv) w w') : ES w' B E A b cv tv sv N' ks' ss k' m' cs ts := by
  refine ⟨(ht.block E (lt_of_block h.ed) h.not_vs).trans h.ed, hf, ?_, own_at9 h.tk (fun g hg => ht.block g (h.lt g (Or.inr (Or.inr (Or.inr hg)))) (h.tk_vs hg).1), h.ge, h.ap⟩
  exact (h.ch.mono (fun _ _ _ _ hp => hp.turn h.fv.off ht)).moved ht (fun g c2 hS hg => (h.ch_vs hg).1 hS)
/-- Another block has turned, that is no row of a node's. -/
theorem ES.turn {T : Nat → Prop} (h : ES w B E A b cv tv sv N ks ss k m cs ts) (ht : Turn T w w') (hd : ∀ j, ESet E A b cv tv sv j → ¬ T j) (ho : Off w T) : ES w' B E A b cv tv sv N ks ss k m cs ts := by
  refine ⟨(ht.block E (lt_of_block h.ed) (hd E (Or.inl rfl))).trans h.ed, h.fv.turn ht (fun j hj => hd j (Or.inr (Or.inl hj))) ho, ?_, own_at9 h.tk (fun g hg => ht.block g (h.lt g (Or.inr (Or.inr (Or.inr hg)))) (hd g (Or.inr (Or.inr (Or.inr hg))))), h.ge, h.ap⟩
  obtain ⟨ls, h1, h2⟩ := h.ch.mono (fun _ _ _ _ hp => hp.turn ho ht)
  exact ⟨ls, h1, own_at9 h2 (fun g hg => ht.block g (h.lt g (Or.inr (Or.inr (Or.inl hg)))) (hd g (Or.inr (Or.inr (Or.inl hg)))))⟩
/-- A change more, its row grown. -/
theorem ES.more {w9 : World} {g c9 : Nat} {x : Ch} {ls : List (List Value)} {l : List Value} (h : ES w B E A b cv tv sv N ks ss k m cs ts) (hls : All2 (CL (PC w B)) ls cs) (hl : CL (PC w B) l x) (hgrow : w.grownBy w9 cv.ownBlock) (hown : w9.ownsRow B 97 14 (.slice (some ⟨g, 0, none⟩) (cs.length + 1) c9) (cs.length + 1) (ls.flatten ++ l)) :
    ES (w9.setCell ⟨E, 1, none⟩ (.slice (some ⟨g, 0, none⟩) (cs.length + 1) c9)) B E A b (.slice (some ⟨g, 0, none⟩) (cs.length + 1) c9) tv sv N ks ss k m (cs ++ [x]) ts ∧ Turn (ESet E A b cv tv sv) w (w9.setCell ⟨E, 1, none⟩ (.slice (some ⟨g, 0, none⟩) (cs.length + 1) c9)) := by
  have ht : Turn (ESet E A b cv tv sv) w (w9.setCell ⟨E, 1, none⟩ (.slice (some ⟨g, 0, none⟩) (cs.length + 1) c9)) := Turn.setCell (S := ESet E A b cv tv sv) (Turn.grown (S := ESet E A b cv tv sv) (Turn.refl _ w) hgrow (fun j hj => Or.inl (Or.inr (Or.inr (Or.inl hj))))) (Or.inl (Or.inl rfl)) _
  have htc : Turn (fun j => j = E ∨ cv.ownBlock = some j) w (w9.setCell ⟨E, 1, none⟩ (.slice (some ⟨g, 0, none⟩) (cs.length + 1) c9)) := Turn.setCell (S := fun j => j = E ∨ cv.ownBlock = some j) (Turn.grown (S := fun j => j = E ∨ cv.ownBlock = some j) (Turn.refl _ w) hgrow (fun j hj => Or.inl (Or.inr hj))) (Or.inl (Or.inl rfl)) _
  have hoff : Off w (fun j => j = E ∨ cv.ownBlock = some j) := by
    rintro j c2 t (e | e) hg
    · exact h.off j c2 t (Or.inl e) hg
    · exact h.off j c2 t (Or.inr (Or.inr (Or.inl e))) hg
  have hE9 : BX w9 E 71 #[.pointer (some ⟨A, 0, none⟩), cv, tv] := (hgrow.block E (lt_of_block h.ed) (fun e => by
    obtain ⟨_, c2, e2⟩ := h.ch.blk e.symm
    exact (h.ch_vs e2).2.1 rfl)).trans h.ed
  refine ⟨⟨hE9.set 1 _, h.fv.turn htc ?_ hoff, ?_, own_at9 h.tk (fun j hj => htc.block j (h.lt j (Or.inr (Or.inr (Or.inr hj)))) ?_), h.ge, h.ap⟩, ht⟩
  · rintro j hj (e | e)
    · subst e; exact h.not_vs hj
    · obtain ⟨_, c2, e2⟩ := h.ch.blk e
      exact (h.ch_vs e2).1 hj
  · have h9 : CsR (PC w B) w9 B (.slice (some ⟨g, 0, none⟩) (cs.length + 1) c9) (cs ++ [x]) := CsR.add hls hl hown
    have h9' : CsR (PC (w9.setCell ⟨E, 1, none⟩ (.slice (some ⟨g, 0, none⟩) (cs.length + 1) c9)) B) w9 B (.slice (some ⟨g, 0, none⟩) (cs.length + 1) c9) (cs ++ [x]) := h9.mono (fun _ _ _ _ hp => NdO.turn hp hoff htc)
    refine h9'.moved (S := fun j => j = E) (Turn.setCell (S := fun j => j = E) (Turn.refl _ w9) (Or.inl rfl) _) (fun j c2 e hg => ?_)
    rw [show j = E from e] at hg
    exact absurd (hE9.type9 hg) (by decide)
  · rintro (e | e)
    · exact (h.tk_vs hj).2 e
    · obtain ⟨_, c2, e2⟩ := h.ch.blk e
      exact (h.ch_vs e2).2.2 hj
/-- A spare more that was taken, the row grown. -/
theorem ES.took {w9 : World} {g c9 : Nat} {c v : Int} (h : ES w B E A b cv tv sv N ks ss k m cs ts) (hgrow : w.grownBy w9 tv.ownBlock) (hlie : tv.ownBlock = some g ∨ w.heap.size ≤ g) (hown : w9.ownsRow B 51 2 (.slice (some ⟨g, 0, none⟩) (ts.length + 1) c9) (ts.length + 1) (spC ts ++ [.int .i64 c, .int .u64 v])) :
    ES (w9.setCell ⟨E, 2, none⟩ (.slice (some ⟨g, 0, none⟩) (ts.length + 1) c9)) B E A b cv (.slice (some ⟨g, 0, none⟩) (ts.length + 1) c9) sv N ks ss k m cs (ts ++ [(c, v)]) ∧ Turn (ESet E A b cv tv sv) w (w9.setCell ⟨E, 2, none⟩ (.slice (some ⟨g, 0, none⟩) (ts.length + 1) c9)) := by
  have ht : Turn (ESet E A b cv tv sv) w (w9.setCell ⟨E, 2, none⟩ (.slice (some ⟨g, 0, none⟩) (ts.length + 1) c9)) := Turn.setCell (S := ESet E A b cv tv sv) (Turn.grown (S := ESet E A b cv tv sv) (Turn.refl _ w) hgrow (fun j hj => Or.inl (Or.inr (Or.inr (Or.inr hj))))) (Or.inl (Or.inl rfl)) _
  have htc : Turn (fun j => j = E ∨ tv.ownBlock = some j) w (w9.setCell ⟨E, 2, none⟩ (.slice (some ⟨g, 0, none⟩) (ts.length + 1) c9)) := Turn.setCell (S := fun j => j = E ∨ tv.ownBlock = some j) (Turn.grown (S := fun j => j = E ∨ tv.ownBlock = some j) (Turn.refl _ w) hgrow (fun j hj => Or.inl (Or.inr hj))) (Or.inl (Or.inl rfl)) _
  have hoff : Off w (fun j => j = E ∨ tv.ownBlock = some j) := by
    rintro j c2 t (e | e) hg
    · exact h.off j c2 t (Or.inl e) hg
    · exact h.off j c2 t (Or.inr (Or.inr (Or.inr e))) hg
  have hE9 : BX w9 E 71 #[.pointer (some ⟨A, 0, none⟩), cv, tv] := (hgrow.block E (lt_of_block h.ed) (fun e => (h.tk_vs e.symm).2 rfl)).trans h.ed
  refine ⟨⟨hE9.set 2 _, h.fv.turn htc ?_ hoff, ?_, ?_, h.ge, ?_⟩, ht⟩
  · rintro j hj (e | e)
    · subst e; exact h.not_vs hj
    · exact (h.tk_vs e).1 hj
  · obtain ⟨ls, h1, h2⟩ := h.ch.mono (fun _ _ _ _ hp => NdO.turn hp hoff htc)
    refine ⟨ls, h1, own_at9 h2 (fun j hj => htc.block j (h.lt j (Or.inr (Or.inr (Or.inl hj)))) ?_)⟩
    obtain ⟨_, c2, e2⟩ := h.ch.blk hj
    rintro (e | e)
    · exact (h.ch_vs e2).2.1 e
    · exact (h.ch_vs e2).2.2 e
  · rw [List.length_append, List.length_singleton, spC_app]
    refine fv_moved hown (fun j c2 hj => Below.heap_setCell w9 ⟨E, 2, none⟩ _ j (fun e => ?_))
    rw [show j = E from e] at hj
    exact absurd (hE9.type9 hj) (by decide)
  · intro j hj e
    injection hj with hj
    subst hj
    rcases hlie with h1 | h1
    · exact h.ap g h1 e
    · have := h.fv.lt.2.2 g e
      omega
end

/-- The place of a cell's last change, of the first i. -/
def lastC (cs : List Ch) (c : Int) : Nat → Int
  | 0 => -1
  | i + 1 => if (cAt cs i).c = c then (i : Int) else lastC cs c i
theorem lastC_is (cs : List Ch) (c : Int) : ∀ i, (lastC cs c i = -1 ∧ ∀ j, j < i → (cAt cs j).c ≠ c) ∨ ∃ j : Nat, lastC cs c i = j ∧ j < i ∧ (cAt cs j).c = c ∧ ∀ l, j < l → l < i → (cAt cs l).c ≠ c
  | 0 => Or.inl ⟨rfl, fun j h => absurd h (Nat.not_lt_zero _)⟩
  | i + 1 => by
    unfold lastC
    by_cases e : (cAt cs i).c = c
    · rw [if_pos e]
      exact Or.inr ⟨i, rfl, Nat.lt_succ_self _, e, fun l h1 h2 => by omega⟩
    · rw [if_neg e]
      rcases lastC_is cs c i with ⟨h1, h2⟩ | ⟨j, h1, h2, h3, h4⟩
      · refine Or.inl ⟨h1, fun j hj => ?_⟩
        by_cases e2 : j = i
        · rw [e2]; exact e
        · exact h2 j (by omega)
      · refine Or.inr ⟨j, h1, by omega, h3, fun l hl hl2 => ?_⟩
        by_cases e2 : l = i
        · rw [e2]; exact e
        · exact h4 l hl (by omega)
theorem lastC_ge (cs : List Ch) (c : Int) (i : Nat) : -1 ≤ lastC cs c i ∧ lastC cs c i < i := by
  rcases lastC_is cs c i with ⟨h1, _⟩ | ⟨j, h1, h2, _⟩ <;> omega
end Go.Proofs.Ytdbklklmpnlinaa

namespace Go.Proofs.Ytdbklklmpnlinaa
open Go.RowKit Go.Maps

theorem zeroInt (w : World) : (zeroValue 3).run Try.prog w = .ok (.int .i64 0) w := by kernel_rfl
theorem keyInt {c : Int} (hc : (Lit.int .i64 c).wf = true) : keyOf Try.prog 3 (.int .i64 c) = some (.int .i64 c) := keyOf_int_mk Try.underlying3 hc
/-- A map of counts. -/
def IM (w : World) (b N : Nat) (f : Int → Nat) : Prop := ∃ D : DataW Value, w.ownsMap Try.prog 3 (plainElem Try.prog 3) b N D ∧ ∀ c, D.atKey (.int .i64 c) (.lit (.int .i64 0)) = .lit (.int .i64 (f c))
theorem IM.made (w : World) : IM (w.alloc (.map #[] 0)) w.heap.size 0 (fun _ => 0) := ⟨_, World.ownsMap_made _ _ _ _, fun _ => rfl⟩
section
variable {w w' : World} {b N : Nat} {f : Int → Nat}
theorem IM.lt (h : IM w b N f) : b < w.heap.size := by obtain ⟨D, h1, _⟩ := h; exact h1.lt
theorem IM.block (h : IM w b N f) (hb : w'.heap[b]? = w.heap[b]?) : IM w' b N f := by
  obtain ⟨D, h1, h2⟩ := h
  exact ⟨D, ownsMap_block14 h1 hb, h2⟩
theorem IM.keep (h : IM w b N f) (hb : Below w.heap.size w w') : IM w' b N f := h.block (hb.block b h.lt)
theorem IM.nocells (h : IM w b N f) : ∀ cs t, w.heap[b]? = some (Obj.cells cs t (0, 0)) → False := by
  obtain ⟨D, ⟨es, cl, hb, _⟩, _⟩ := h
  intro cs t e
  rw [hb] at e
  cases e
set_option maxRecDepth 100000 in
theorem IM.look (h : IM w b N f) {c : Int} (hc : (Lit.int .i64 c).wf = true) : (Instr.lookup 86 (.map (some b)) (.int .i64 c) false).run Try.prog w = .ok (.int .i64 (f c)) w := by
  obtain ⟨D, h1, h2⟩ := h
  obtain ⟨z, hrun, hat, _⟩ := h1.lookup_int keyedC Try.underlying86 Try.underlying3 (zeroInt w) (keyInt hc)
  rw [h2 c] at hat
  injection hat with hat
  injection hat with _ hat
  rw [hrun, hat]
theorem IM.store (h : IM w b N f) (hN : N < 1099511627776) {x : Int} (hx : (Lit.int .i64 x).wf = true) (v : Nat) (hv : (v : Int) ≤ 9223372036854775807) :
    ∃ w', (Instr.mapUpdate 86 (.map (some b)) (.int .i64 x) (.int .i64 v)).run Try.prog w = .ok () w' ∧ IM w' b (N + 1) (fun c => if c = x then v else f c) ∧ Turn (fun j => j = b) w w' := by
  obtain ⟨D, h1, h2⟩ := h
  have hvw : (Lit.int .i64 (v : Int)).wf = true := by
    have e1 : IntKind.i64.min = -9223372036854775808 := by decide
    have e2 : IntKind.i64.max = 9223372036854775807 := by decide
    unfold Lit.wf
    rw [Bool.and_eq_true, decide_eq_true_iff, decide_eq_true_iff, e1, e2]
    omega
  obtain ⟨w', hrun, hown, hg⟩ := h1.update keyedC Try.underlying86 (by unfold maxLen; omega) (keyInt hx) (plainElem_int Try.underlying3 hvw)
  refine ⟨w', hrun, ⟨_, hown, fun c => ?_⟩, (Turn.refl _ w).grown hg (fun k hk => by injection hk with hk; exact Or.inl hk.symm)⟩
  by_cases e : c = x
  · subst e
    dsimp only
    rw [if_pos rfl, atKey_put_same h1.isMap (keyLit c)]
  · dsimp only
    rw [if_neg e, atKey_put_other (lit_ne e)]
    exact h2 c
end

/-- A node's value, its rows read in w0. -/
def NdV (w0 : World) (v : Value) (n : Nod) : Prop := ∃ (ak av ac : Option Addr) (ck cv cc : Nat), v = .agg #[.int .i64 n.lv, .string n.lo, .string n.hi, .bool n.la, .int .i64 n.nx, .slice ak n.ks.length ck, .slice av n.vs.length cv, .slice ac n.cs.length cc] ∧ NdAt w0 ak av ac n.ks.length ck n.vs.length cv n.cs.length cc n.ks n.vs n.cs
theorem NdV.keep {w w' : World} {v : Value} {n : Nod} (h : NdV w v n) (hb : Below w.heap.size w w') : NdV w' v n := by
  obtain ⟨ak, av, ac, ck, cv, cc, e, hN⟩ := h
  exact ⟨ak, av, ac, ck, cv, cc, e, hN.keep hb⟩
theorem NdV.zero (w : World) : NdV w (.agg #[.int .i64 0, .string ⟨#[]⟩, .string ⟨#[]⟩, .bool false, .int .i64 0, .slice none 0 0, .slice none 0 0, .slice none 0 0]) Nod.none :=
  ⟨none, none, none, 0, 0, 0, rfl, ⟨Rd.nil _, Rd.nil _, Rd.nil _⟩⟩
/-- A map of nodes. -/
def NM (w0 w : World) (b N : Nat) (ks : List Kn) : Prop := ∃ D : DataW Value, w.ownsMap Try.prog 3 knR b N D ∧ (∀ c, kfind ks c = none → Maps.has D (.int .i64 c) = false) ∧ ∀ c k, kfind ks c = some k → Maps.has D (.int .i64 c) = true ∧ ∃ v, (∀ z, D.atKey (.int .i64 c) z = .held v) ∧ NdV w0 v k.n
theorem NM.made (w0 w : World) : NM w0 (w.alloc (.map #[] 0)) w.heap.size 0 [] := ⟨_, World.ownsMap_made _ _ _ _, fun _ _ => rfl, fun _ _ h => by cases h⟩
section
variable {w0 w w' : World} {b N : Nat} {ks : List Kn}
theorem NM.lt (h : NM w0 w b N ks) : b < w.heap.size := by obtain ⟨D, h1, _⟩ := h; exact h1.lt
theorem NM.block (h : NM w0 w b N ks) (hb : w'.heap[b]? = w.heap[b]?) : NM w0 w' b N ks := by
  obtain ⟨D, h1, h2⟩ := h
  exact ⟨D, ownsMap_block14 h1 hb, h2⟩
theorem NM.keep (h : NM w0 w b N ks) (hb : Below w.heap.size w w') : NM w0 w' b N ks := h.block (hb.block b h.lt)
theorem NM.nocells (h : NM w0 w b N ks) : ∀ cs t, w.heap[b]? = some (Obj.cells cs t (0, 0)) → False := by
  obtain ⟨D, ⟨es, cl, hb, _⟩, _⟩ := h
  intro cs t e
  rw [hb] at e
  cases e
theorem zeroNd (w : World) : (zeroValue 41).run Try.prog w = .ok (.agg #[.int .i64 0, .string ⟨#[]⟩, .string ⟨#[]⟩, .bool false, .int .i64 0, .slice none 0 0, .slice none 0 0, .slice none 0 0]) w := by kernel_rfl
/-- The node of a cell; a plain one. -/
def nodOf (ks : List Kn) (c : Int) : Nod := match kfind ks c with | some k => k.n | none => Nod.none
theorem NM.look (h : NM w0 w b N ks) {c : Int} (hc : (Lit.int .i64 c).wf = true) :
    ∃ v, NdV w0 v (nodOf ks c) ∧ (Instr.lookup 85 (.map (some b)) (.int .i64 c) false).run Try.prog w = .ok v w ∧ (Instr.lookup 85 (.map (some b)) (.int .i64 c) true).run Try.prog w = .ok (.tuple #[v, .bool (kfind ks c).isSome]) w := by
  obtain ⟨D, h1, h2, h3⟩ := h
  obtain ⟨u, ps, hrun, hv⟩ := h1.lookup keyedC Try.underlying85 (zeroNd w) (zd := .held (.agg #[.int .i64 0, .string ⟨#[]⟩, .string ⟨#[]⟩, .bool false, .int .i64 0, .slice none 0 0, .slice none 0 0, .slice none 0 0])) (zp := []) rfl (keyInt hc)
  obtain ⟨u2, ps2, hrun2, hv2⟩ := h1.look_ok keyedC Try.underlying85 (zeroNd w) (zd := .held (.agg #[.int .i64 0, .string ⟨#[]⟩, .string ⟨#[]⟩, .bool false, .int .i64 0, .slice none 0 0, .slice none 0 0, .slice none 0 0])) (zp := []) rfl (keyInt hc)
  unfold nodOf
  cases hk : kfind ks c with
  | none =>
    have hz := atKey_of_not_has (h2 c hk)
    rw [hz] at hv hv2
    injection hv with hv
    injection hv with hv _
    injection hv with hv
    injection hv2 with hv2
    injection hv2 with hv2 _
    injection hv2 with hv2
    subst hv hv2
    refine ⟨_, NdV.zero w0, hrun, ?_⟩
    rw [hrun2, h2 c hk]
    rfl
  | some k =>
    obtain ⟨hh, v, hat, hnd⟩ := h3 c k hk
    rw [hat] at hv hv2
    injection hv with hv
    injection hv with hv _
    injection hv with hv
    injection hv2 with hv2
    injection hv2 with hv2 _
    injection hv2 with hv2
    subst hv hv2
    refine ⟨_, hnd, hrun, ?_⟩
    rw [hrun2, hh]
    rfl
theorem NM.store (h : NM w0 w b N ks) (hN : N < 1099511627776) {kn : Kn} (hx : (Lit.int .i64 kn.c).wf = true) {v : Value} (hv : NdV w0 v kn.n) (hnew : kfind ks kn.c = none) :
    ∃ w', (Instr.mapUpdate 85 (.map (some b)) (.int .i64 kn.c) v).run Try.prog w = .ok () w' ∧ NM w0 w' b (N + 1) (ks ++ [kn]) ∧ Turn (fun j => j = b) w w' := by
  obtain ⟨D, h1, h2, h3⟩ := h
  obtain ⟨w', hrun, hown, hg⟩ := h1.update keyedC Try.underlying85 (by unfold maxLen; omega) (keyInt hx) (val := v) (d := .held v) (ps := []) rfl
  have hf : ∀ c, kfind (ks ++ [kn]) c = if c = kn.c then some kn else kfind ks c := fun c => by
    unfold kfind at hnew ⊢
    rw [List.find?_append]
    by_cases e : c = kn.c
    · subst e
      rw [hnew, if_pos rfl]
      simp
    · rw [if_neg e]
      have : ¬ kn.c = c := fun h => e h.symm
      simp [this]
  refine ⟨w', hrun, ⟨_, hown, fun c hc => ?_, fun c k hc => ?_⟩, (Turn.refl _ w).grown hg (fun k hk => by injection hk with hk; exact Or.inl hk.symm)⟩
  · rw [hf c] at hc
    by_cases e : c = kn.c
    · rw [if_pos e] at hc; cases hc
    · rw [if_neg e] at hc
      rw [has_put_other (lit_ne e)]
      exact h2 c hc
  · rw [hf c] at hc
    by_cases e : c = kn.c
    · subst e
      rw [if_pos rfl] at hc
      injection hc with hc
      subst hc
      exact ⟨has_put_same h1.isMap (keyLit _) _, v, fun z => atKey_put_same h1.isMap (keyLit _) _ z, hv⟩
    · rw [if_neg e] at hc
      obtain ⟨q1, u, q2, q3⟩ := h3 c k hc
      exact ⟨by rw [has_put_other (lit_ne e)]; exact q1, u, fun z => by rw [atKey_put_other (lit_ne e)]; exact q2 z, q3⟩
end
end Go.Proofs.Ytdbklklmpnlinaa

namespace Go.Proofs.Ytdbklklmpnlinaa
open Go.RowKit

/-- An iterator's own step: what lay below B stays, and all that is neither cells nor a map nor a walk. -/
structure Stp (B : Nat) (A C : World) : Prop where
  b : Below B A C
  o : ∀ (k : Nat) (x : Obj), A.heap[k]? = some x → x.isCells = false → x.isWalk = false → C.heap[k]? = some x
theorem Stp.refl (B : Nat) (A : World) : Stp B A A := ⟨Below.refl _ _, fun _ _ h _ _ => h⟩
theorem Stp.trans {B : Nat} {A C E : World} (h : Stp B A C) (k : Stp B C E) : Stp B A E := ⟨h.b.trans k.b, fun i x h1 h2 h3 => k.o i x (h.o i x h1 h2 h3) h2 h3⟩
/-- What an iterator gives to a body that always goes on. -/
def SeqC {α : Type} (F : Fence) (n : Nat) (P : Program) (g : Nat) (lb : Array Value) (encs : α → Array Value) (Kp : World → World → Prop) (S : List α → Prop) (N : Nat) (w : World) : Prop :=
  ∀ (l : Nat) (J : List α → World → Prop) (W : World), Below w.heap.size w W → (∀ s A C, J s A → Stp W.heap.size A C → J s C) →
    (∀ pre x A, J pre A → pre.length < N → YieldAt F (n - 1) P l (encs x) A fun e C => e = .returned (.bool true) ∧ J (pre ++ [x]) C ∧ Kp A C) →
    J [] W → CallsIn F n P g (#[.func (.yield l) #[] #[]] ++ lb) W fun e C => (∃ v, e = .returned v) ∧ ∃ xs, S xs ∧ J xs C
/-- How a body that goes on ends. -/
def goesOut (B : Nat) (Kp : World → World → Prop) (I : World → Prop) (A : World) : Exit → Act → World → Prop
  | .normal, _, C => KeepsFrom B A C ∧ Kp A C ∧ I C
  | _, _, _ => False
set_option maxHeartbeats 1000000 in
theorem range_goes {F : Fence} {n : Nat} {P : Program} {α : Type} {g : Operand} {ps : Array Tmp} {assign body : Code} {Q : Exit → Act → World → Prop} {a : Act} {w : World}
    (hro : F.round = none) (h1 : 1 ≤ n) {gf : Nat} {lb : Array Value} (hg : a.eval g = .func (.func gf) #[] lb) (hFg : F.fn gf) (eg : ∀ args w, (callFunc gf args).run P w = .ok (.enter gf args) w)
    {encs : α → Array Value} {Kp : World → World → Prop} {S : List α → Prop} {N : Nat} (hseq : SeqC F (n - 1) P gf lb encs Kp S N w)
    (hKt : ∀ {A B C : World}, Kp A B → Kp B C → Kp A C) (hKb : ∀ (W : World) (l : Nat) (o o' : Obj), w.heap.size ≤ l → W.heap[l]? = some o → o.isCells = false → o.isWalk = false → Kp W (W.putObj l o')) (hps : ∀ x, (encs x).size = ps.size)
    (I : List α → World → Prop) (hI : ∀ s A C, I s A → Below w.heap.size A C → I s C) (h0 : I [] w) (a₁ : α → Act)
    (hassign : ∀ (l : Nat) (x : α) (W : World) (K : Act → World → Prop), K (a₁ x) W →
      assign.wpIn (F.inRound l) (n - 1 - 1) P (Exit.then K (fun _ _ _ => False)) { tmps := (ps.zip (encs x)).foldl (fun t (p, v) => t.setIfInBounds p v) a.tmps, defers := [] } W)
    (hbody : ∀ (l : Nat) (pre : List α) (x : α) (W : World), I pre W → w.heap.size ≤ W.heap.size → pre.length < N → body.wpIn (F.inRound l) (n - 1 - 1) P (goesOut w.heap.size Kp (I (pre ++ [x])) W) (a₁ x) W)
    (hdone : ∀ (D : Nat) (xs : List α) (W : World), w.heap.size ≤ D → S xs → I xs W → W.heap[D]? = some (.deferred (some [])) → Q .normal { a with defers := { target := .collected D, args := #[] } :: a.defers } W) :
    (Code.rangeFunc g ps assign body).wpIn F n P Q a w := by
  refine wpIn_rangeFunc (fun fn hfn => ?_)
  rw [hro]
  obtain ⟨D, hD⟩ : ∃ D, D = w.heap.size := ⟨_, rfl⟩
  obtain ⟨rc, hrc⟩ : ∃ rc : LoopState → Loop, rc = fun st => { state := st, pending := none, fn, tmps := a.tmps, params := ps, assign, body, defers := D } := ⟨_, rfl⟩
  have hent := run_enterLoop_outer (P := P) (w := w) fn a.tmps ps assign body
  rw [← hD] at hent
  rw [show ({ state := .ready, pending := none, fn, tmps := a.tmps, params := ps, assign, body, defers := D } : Loop) = rc .ready from by rw [hrc]] at hent
  obtain ⟨V, hV⟩ : ∃ V, V = (w.alloc (.deferred (some []))).alloc (.loop (rc .ready)) := ⟨_, rfl⟩
  rw [← hV] at hent
  have sV : V.heap.size = D + 1 + 1 := by rw [hV, World.size_alloc, World.size_alloc, hD]
  have vL : V.heap[D + 1]? = some (.loop (rc .ready)) := by
    have h := World.alloc_heap_new (w.alloc (.deferred (some []))) (.loop (rc .ready))
    rw [World.size_alloc, ← hD] at h
    rw [hV]
    exact h
  have vD : V.heap[D]? = some (.deferred (some [])) := by
    rw [hV]
    exact (Below.heap_alloc _ _ _ (by rw [World.size_alloc, ← hD]; omega)).trans (by rw [hD]; exact World.alloc_heap_new w _)
  have vB : Below w.heap.size w V := by
    rw [hV]
    exact ((Below.refl _ w).alloc (Nat.le_refl _) _).alloc (by rw [World.size_alloc]; omega) _
  refine ⟨D + 1, _, V, { target := .fn (.func gf) lb, args := #[.func (.yield (D + 1)) #[] #[]] }, V, gf, #[.func (.yield (D + 1)) #[] #[]] ++ lb, V, hent, ?_, ?_, ?_, fun _ => h1, ?_⟩
  · simp only [resolve, hg]
    simp [go_sem]
  · intro f' hf'
    simp [Target.leads] at hf'
    subst hf'
    exact hFg
  · simp [invoke, go_sem, eg]
  · refine (hseq (D + 1) (fun pre W => I pre W ∧ W.heap[D + 1]? = some (.loop (rc .ready)) ∧ W.heap[D]? = some (.deferred (some []))) V vB ?_ ?_ ⟨hI _ _ _ h0 vB, vL, vD⟩).mono ?_
    · rintro s A C ⟨i1, i2, i3⟩ hs
      exact ⟨hI _ _ _ i1 (hs.b.mono (by omega)), hs.o _ _ i2 rfl rfl, hs.o _ _ i3 rfl rfl⟩
    · rintro pre x A ⟨i1, i2, i3⟩ hlen
      have lA : D + 1 < A.heap.size := (Array.getElem?_eq_some_iff.1 i2).1
      have hy := run_yield (P := P) (args := encs x) i2 (by rw [hrc]; exact hps x)
      rw [hrc] at hy
      refine ⟨fn, _, assign, body, hy, roundIn_of_wpIn hfn (hassign _ x A _ ?_)⟩
      refine ⟨_, run_beginRound i2 (by rw [hrc]), ?_⟩
      obtain ⟨A2, hA2⟩ : ∃ A2, A2 = A.putObj (D + 1) (.loop { rc .ready with state := .busy }) := ⟨_, rfl⟩
      have aL : A2.heap[D + 1]? = some (.loop { rc .ready with state := .busy }) := by rw [hA2]; exact World.putObj_heap_same lA
      have aD : A2.heap[D]? = some (.deferred (some [])) := by rw [hA2]; exact (World.putObj_heap_other (by omega)).trans i3
      have aK : Kp A A2 := by rw [hA2]; exact hKb _ _ _ _ (by omega) i2 rfl rfl
      have aB : Below w.heap.size A A2 := by
        rw [hA2]
        exact (Below.refl _ A).grown (grownBy_putObj' A _ _) (by omega) (fun k e => by cases e; omega)
      rw [← hA2]
      refine wpIn_mono (hbody _ pre x A2 (hI _ _ _ i1 aB) (by have := aB.size; omega) hlen) ?_
      intro e a3 C hp
      cases e with
      | normal =>
        obtain ⟨c1, c2, c3⟩ := hp
        have cL := c1.same _ _ (by omega) aL rfl
        have cD := c1.same _ _ (by omega) aD rfl
        have lC : D + 1 < C.heap.size := (Array.getElem?_eq_some_iff.1 cL).1
        have hr := run_endRound (P := P) none cL
        have cB : Below w.heap.size C (C.putObj (D + 1) (.loop (rc .ready))) := (Below.refl _ C).grown (grownBy_putObj' C _ _) (by omega) (fun k e => by cases e; omega)
        have hrr : ({ ({ rc .ready with state := .busy } : Loop) with state := .ready, pending := none } : Loop) = rc .ready := by rw [hrc]
        refine ⟨_, _, hr, ?_⟩
        show _ ∧ _ ∧ _
        refine ⟨rfl, ⟨?_, ?_, ?_⟩, ?_⟩
        · exact hI _ _ _ c3 (by simpa [hrc] using cB)
        · simpa [hrc] using World.putObj_heap_same (o := .loop (rc .ready)) lC
        · exact (World.putObj_heap_other (by omega)).trans cD
        · exact hKt aK (hKt c2 (hKb _ _ _ _ (by omega) cL rfl rfl))
      | ret => exact hp.elim
      | exit id => exact hp.elim
      | goto t => exact hp.elim
      | panic ch => exact hp.elim
      | outgrown => exact hp.elim
    · rintro e C ⟨⟨v, rfl⟩, xs, hS, i1, i2, i3⟩
      have lC : D + 1 < C.heap.size := (Array.getElem?_eq_some_iff.1 i2).1
      obtain ⟨r, hr⟩ : ∃ r, r = rc .ready := ⟨_, rfl⟩
      rw [← hr] at i2
      have hp0 : r.pending = none := by rw [hr, hrc]
      have he := run_endLoop (P := P) i2 (by rw [hr, hrc]; simp)
      have cB : ∀ o, Below w.heap.size C (C.putObj (D + 1) o) := fun o => (Below.refl _ C).grown (grownBy_putObj' C _ _) (by omega) (fun k e => by cases e; omega)
      refine ⟨none, C.putObj (D + 1) (.loop { r with state := .exhausted }), he.trans (by rw [hp0]), ?_⟩
      exact hdone D xs _ (by omega) hS (hI _ _ _ i1 (cB _)) ((World.putObj_heap_other (by omega)).trans i3)
end Go.Proofs.Ytdbklklmpnlinaa

namespace Go.Proofs.Ytdbklklmpnlinaa
open Go.RowKit

/-- All cells and maps stay but block b. -/
structure Kept (b : Nat) (A C : World) : Prop where
  size : A.heap.size ≤ C.heap.size
  same : ∀ (k : Nat) (o : Obj), k ≠ b → A.heap[k]? = some o → (o.isCells = true ∨ o.isWalk = true) → C.heap[k]? = some o
theorem Kept.refl (b : Nat) (A : World) : Kept b A A := ⟨Nat.le_refl _, fun _ _ _ h _ => h⟩
theorem Kept.trans {b : Nat} {A C E : World} (h : Kept b A C) (k : Kept b C E) : Kept b A E := ⟨Nat.le_trans h.size k.size, fun i o h1 h2 h3 => k.same i o h1 (h.same i o h1 h2 h3) h3⟩
theorem Kept.below {b : Nat} {A C E : World} (h : Kept b A C) (k : Below A.heap.size C E) : Kept b A E := ⟨Nat.le_trans h.size k.size, fun i o h1 h2 h3 => (k.block i (Array.getElem?_eq_some_iff.1 h2).1).trans (h.same i o h1 h2 h3)⟩
theorem Kept.put {b : Nat} (W : World) (l : Nat) (o o' : Obj) (h : W.heap[l]? = some o) (h1 : o.isCells = false) (h2 : o.isWalk = false) : Kept b W (W.putObj l o') :=
  ⟨(grownBy_putObj' W l o').size, fun k x _ hk hx => (World.putObj_heap_other (fun e => by
    subst e
    rw [h] at hk
    cases hk
    rcases hx with hx | hx
    · rw [h1] at hx; cases hx
    · rw [h2] at hx; cases hx)).trans hk⟩
theorem Kept.bx {b G : Nat} {A C : World} {t : TypeId} {cs : Array Value} (h : Kept b A C) (hx : BX A G t cs) (hne : G ≠ b) : BX C G t cs := h.same G _ hne hx (Or.inl rfl)
theorem Kept.cell {b : Nat} {A C : World} (h : Kept b A C) {g o : Nat} {v : Value} (hne : g ≠ b) (hc : A.cell? ⟨g, o, none⟩ = some v) : C.cell? ⟨g, o, none⟩ = some v := by
  have hlt := World.block_lt_of_cell? A _ hc
  obtain ⟨x, hx⟩ : ∃ x, A.heap[g]? = some x := ⟨_, Array.getElem?_eq_getElem hlt⟩
  cases x with
  | cells cs t f =>
    have h2 := h.same g _ hne hx (Or.inl rfl)
    rw [← hc]
    unfold World.cell?
    simp only [hx, h2]
  | _ => simp [World.cell?, hx] at hc
theorem Stp.of_b {B : Nat} {A C : World} (hb : Below A.heap.size A C) (h : B ≤ A.heap.size) : Stp B A C := ⟨hb.mono h, fun k _ hk _ _ => (hb.block k (Array.getElem?_eq_some_iff.1 hk).1).trans hk⟩
end Go.Proofs.Ytdbklklmpnlinaa

namespace Go.Proofs.Ytdbklklmpnlinaa
open Go.RowKit Go.Maps Go.Shelf
attribute [local go_sem] Oper.semAt_some

section
variable {B E A b N : Nat} {cv tv sv : Value} {ks : List Kn} {ss ts : List (Int × Int)} {k m : Int} {cs : List Ch}
theorem begun_yes (E A : Nat) (cv tv : Value) (w : World) (h : BX w E 71 #[.pointer (some ⟨A, 0, none⟩), cv, tv]) : Calls Try.prog 44 #[.pointer (some ⟨E, 0, none⟩)] w fun e w' => e = .returned (.bool true) ∧ w = w' := by
  have c0 := h.cell 0 rfl
  clear h
  go_enter Try.func44, Try.ntmps44
  go_wp2
  go_ret
  exact ⟨rfl, rfl⟩
/-- An edit that is none, or of no view. -/
def NoEd (w : World) (v : Value) : Prop := v = .pointer none ∨ ∃ E, v = .pointer (some ⟨E, 0, none⟩) ∧ BX w E 71 #[.pointer none, .slice none 0 0, .slice none 0 0]
theorem NoEd.keep {w w' : World} {v : Value} (h : NoEd w v) (hb : Below w.heap.size w w') : NoEd w' v := by
  rcases h with rfl | ⟨E, rfl, h⟩
  · exact Or.inl rfl
  · exact Or.inr ⟨E, rfl, h.below hb⟩
theorem NoEd.ptr {w : World} {v : Value} (h : NoEd w v) : ∃ a, v = .pointer a := by
  rcases h with rfl | ⟨E, rfl, _⟩
  · exact ⟨_, rfl⟩
  · exact ⟨_, rfl⟩
theorem begun_no (v : Value) (w : World) (h : NoEd w v) : Calls Try.prog 44 #[v] w fun e w' => e = .returned (.bool false) ∧ w = w' := by
  rcases h with rfl | ⟨E, rfl, h⟩
  · go_enter Try.func44, Try.ntmps44
    go_wp2
    go_ret
    exact ⟨rfl, rfl⟩
  · have c0 := h.cell 0 rfl
    clear h
    go_enter Try.func44, Try.ntmps44
    go_wp2
    go_ret
    exact ⟨rfl, rfl⟩
theorem ofIt_any (E : Nat) (c : Int) (w : World) : Calls Try.prog 81 #[.pointer (some ⟨E, 0, none⟩), .int .i64 c] w fun e w' => e = .returned (.func (.func 123) #[] #[.pointer (some ⟨w.heap.size, 0, none⟩), .pointer (some ⟨w.heap.size + 1, 0, none⟩)]) ∧ w' = (w.alloc (.cells #[.pointer (some ⟨E, 0, none⟩)] 55)).alloc (.cells #[.int .i64 c] 3) := by
  go_enter Try.func81, Try.ntmps81
  go_wp2
  go_ret
  refine ⟨?_, ?_⟩
  all_goals first | rfl | simp
end
/-- The places of a cell's changes, of the first i. -/
def ofC (cs : List Ch) (c : Int) : Nat → List Int
  | 0 => []
  | i + 1 => if (cAt cs i).c = c then ofC cs c i ++ [(i : Int)] else ofC cs c i
theorem ofC_len (cs : List Ch) (c : Int) : ∀ i, (ofC cs c i).length ≤ i
  | 0 => Nat.le_refl _
  | i + 1 => by
    unfold ofC
    have := ofC_len cs c i
    split
    · rw [List.length_append, List.length_singleton]; omega
    · omega
theorem ofC_last (cs : List Ch) (c : Int) : ∀ i, (ofC cs c i).getLastD (-1) = lastC cs c i
  | 0 => rfl
  | i + 1 => by
    unfold ofC lastC
    split
    · simp
    · exact ofC_last cs c i
set_option maxHeartbeats 4000000 in
set_option maxRecDepth 100000 in
theorem of_in (n : Nat) (hn : 1 ≤ n) (l g1 g2 b E A : Nat) (ao : Option Addr) (nc cc : Nat) (tv : Value) (c : Int) (cs : List Ch) (P : Value → Value → Value → Ch → Prop) (W : World) (J : List Int → World → Prop)
    (hab : ∀ s A C, J s A → Stp W.heap.size A C → J s C)
    (hY : ∀ pre (x : Int) A, J pre A → pre.length < cs.length → YieldAt Fence.wide (n - 1) Try.prog l #[.int .i64 x] A fun e C => e = .returned (.bool true) ∧ J (pre ++ [x]) C ∧ Kept b A C)
    (h1 : BX W g1 55 #[.pointer (some ⟨E, 0, none⟩)]) (h2 : BX W g2 3 #[.int .i64 c]) (hE : BX W E 71 #[.pointer (some ⟨A, 0, none⟩), .slice ao nc cc, tv]) (hcs : CsAt P W (.slice ao nc cc) cs)
    (hne : g1 ≠ b ∧ g2 ≠ b ∧ E ≠ b) (hrow : ∀ g o, ao = some ⟨g, o, none⟩ → g ≠ b) (h0 : J [] W) :
    CallsIn Fence.wide n Try.prog 123 #[.func (.yield l) #[] #[], .pointer (some ⟨g1, 0, none⟩), .pointer (some ⟨g2, 0, none⟩)] W fun e C => (∃ v, e = .returned v) ∧ J (ofC cs c cs.length) C := by
  have hl := hcs.len
  have HY := Lib.hid hY
  have HAB := Lib.hid hab
  have HCS := Lib.hid hcs
  have HB := Lib.hid (show _ ∧ _ ∧ _ ∧ _ from ⟨h1, h2, hE, hne⟩)
  have HROW := Lib.hid hrow
  have HJ := Lib.hid h0
  have c1 := h1.cell 0 rfl
  have c2 := hE.cell 1 rfl
  have HL := Lib.hid hl.1
  obtain ⟨hl1, hl2, hl3⟩ := hl
  clear hab hY h1 h2 hE hcs hne hrow h0
  refine callsIn_of_wp Try.func123 rfl trivial ?_ rfl
  simp only [Try.ntmps123, List.size_toArray, List.length_cons, List.length_nil, Nat.reduceAdd, Nat.reduceSub, Array.replicate_succ, Array.replicate_zero, List.push_toArray, List.append_toArray, List.nil_append, List.cons_append]
  gi_wp2
  gi_loopw [11] (fun v11 wr => ∃ i : Nat, v11 = .int .i64 i ∧ i ≤ nc ∧ Hid (Kept b W wr ∧ J (ofC cs c i) wr)) (fun v11 _ => nc - (intOf v11).toNat)
  case atStart => exact ⟨0, rfl, Nat.zero_le _, Lib.hid ⟨Kept.refl b W, HJ.out⟩⟩
  case round =>
    obtain ⟨i, rfl, hi, HS⟩ := hrel
    obtain ⟨wx, hwx⟩ : ∃ V : World, V = wr := ⟨_, rfl⟩
    rw [← hwx] at HS ⊢
    clear hwx
    by_cases hlt : i < nc
    · obtain ⟨g, o, ak, nk, ck, av, nv, cv, ac, nn, cn, rfl, hP, hc⟩ := HCS.out.get hlt
      have hgb := HROW.out g o rfl
      have hcc := hc W (Below.refl _ _)
      have get : ∀ j v, ((cAt cs i).cells (.slice ak nk ck) (.slice av nv cv) (.slice ac nn cn))[j]? = some v → j < 14 → wx.cell? ⟨g, o + i * 14 + j, none⟩ = some v := fun j v hv hj => HS.out.1.cell hgb ((hcc j hj).trans hv)
      obtain ⟨x, hx⟩ : ∃ x, x = cAt cs i := ⟨_, rfl⟩
      rw [← hx] at get
      have q0 := get 0 _ rfl (by decide)
      have q1 := get 1 _ rfl (by decide)
      have q2 := get 2 _ rfl (by decide)
      have q3 := get 3 _ rfl (by decide)
      have q4 := get 4 _ rfl (by decide)
      have q5 := get 5 _ rfl (by decide)
      have q6 := get 6 _ rfl (by decide)
      have q7 := get 7 _ rfl (by decide)
      have q8 := get 8 _ rfl (by decide)
      have q9 := get 9 _ rfl (by decide)
      have q10 := get 10 _ rfl (by decide)
      have q11 := get 11 _ rfl (by decide)
      have q12 := get 12 _ rfl (by decide)
      have q13 := get 13 _ rfl (by decide)
      rw [Nat.add_zero] at q0
      have d2 : wx.cell? ⟨g2, 0, none⟩ = some (.int .i64 c) := HS.out.1.cell HB.out.2.2.2.2.1 (HB.out.2.1.cell 0 rfl)
      have hlt' : (i : Int) < nc := by omega
      have hb2 := boxed_below wx (.cells #[.int .i64 x.c, .int .i64 x.fr, .int .u64 x.wd, .int .u64 x.vr, .bool x.em, .bool x.li, .int .i64 x.n.lv, .string x.n.lo, .string x.n.hi, .bool x.n.la, .int .i64 x.n.nx, .slice ak nk ck, .slice av nv cv, .slice ac nn cn] 97)
      have HST := Lib.hid (show Kept b W _ ∧ J (ofC cs c i) _ from ⟨HS.out.1.below (hb2.mono HS.out.1.size), HAB.out _ _ _ HS.out.2 (Stp.of_b hb2 HS.out.1.size)⟩)
      have HX := Lib.hid hx
      have hlt2 : g2 < wx.heap.size := World.block_lt_of_cell? wx _ d2
      have hne2 : ¬ g2 = wx.heap.size := by omega
      have d2' := (hb2.cell (p := ⟨g2, 0, none⟩) hlt2).trans d2
      clear get hcc hc hP hx hb2
      by_cases he : x.c = c
      · have he' : (x.c == c) = true := beq_iff_eq.2 he
        obtain ⟨fn, tmps, assign, body, hy, hR⟩ := HY.out (ofC cs c i) i _ HST.out.2 (by have := ofC_len cs c i; have := HL.out; omega)
        have hof : ofC cs c (i + 1) = ofC cs c i ++ [(i : Int)] := by
          show (if (cAt cs i).c = c then _ else _) = _
          rw [if_pos (by rw [← HX.out]; exact he)]
        have HOF := Lib.hid hof
        clear hof he
        gi_wp2
        refine hR.mono ?_
        rintro e W3 ⟨rfl, hJ3, hk3⟩
        rw [← HOF.out] at hJ3
        have HS3 := Lib.hid (show Kept b W W3 ∧ J (ofC cs c (i + 1)) W3 from ⟨HST.out.1.trans hk3, hJ3⟩)
        clear hJ3 hk3 q0 q1 q2 q3 q4 q5 q6 q7 q8 q9 q10 q11 q12 q13 d2
        gi_wp2
        go_roundw
        case rel => exact ⟨i + 1, by go_num, by omega, HS3⟩
        case measure => simp [intOf]; omega
      · have he' : (x.c == c) = false := beq_eq_false_iff_ne.2 he
        have hof : ofC cs c (i + 1) = ofC cs c i := by
          show (if (cAt cs i).c = c then _ else _) = _
          rw [if_neg (by rw [← HX.out]; exact he)]
        have HS3 := Lib.hid (show Kept b W _ ∧ J (ofC cs c (i + 1)) _ from by rw [hof]; exact HST.out)
        clear hof
        gi_wp2
        refine ⟨(fun f h => by cases h), ?_⟩
        gi_wp2
        go_roundw
        case rel => exact ⟨i + 1, by go_num, by omega, HS3⟩
        case measure => simp [intOf]; omega
    · have hin : i = cs.length := by have := HL.out; omega
      have HE := Lib.hid (show J (ofC cs c cs.length) wx from by rw [← hin]; exact HS.out.2)
      clear hin
      gi_wp2
      go_end0
      exact ⟨⟨_, rfl⟩, HE.out⟩
theorem of_seq (n : Nat) (hn : 1 ≤ n) (g1 g2 b E A : Nat) (ao : Option Addr) (nc cc : Nat) (tv : Value) (c : Int) (cs : List Ch) (P : Value → Value → Value → Ch → Prop) (w : World)
    (h1 : BX w g1 55 #[.pointer (some ⟨E, 0, none⟩)]) (h2 : BX w g2 3 #[.int .i64 c]) (hE : BX w E 71 #[.pointer (some ⟨A, 0, none⟩), .slice ao nc cc, tv]) (hcs : CsAt P w (.slice ao nc cc) cs) (hne : g1 ≠ b ∧ g2 ≠ b ∧ E ≠ b) (hrow : ∀ g o, ao = some ⟨g, o, none⟩ → g ≠ b) :
    SeqC Fence.wide n Try.prog 123 #[.pointer (some ⟨g1, 0, none⟩), .pointer (some ⟨g2, 0, none⟩)] (fun x : Int => #[.int .i64 x]) (Kept b) (fun xs => xs = ofC cs c cs.length) cs.length w := fun l J W hW hab hY h0 =>
  (of_in n hn l g1 g2 b E A ao nc cc tv c cs P W J hab hY (h1.below hW) (h2.below hW) (hE.below hW) (hcs.keep hW) hne hrow h0).mono (fun _ _ h => ⟨h.1, _, rfl, h.2⟩)
/-- What the body of last's range turns: its own box alone. -/
structure LI (w A : World) (L : Nat) (pre : List Int) : Prop where
  l : BX A L 3 #[.int .i64 (pre.getLastD (-1))]
  bl : Below w.heap.size w A
theorem LI.below {w A C : World} {L B : Nat} {pre : List Int} (h : LI w A L pre) (hw : w.heap.size ≤ L) (hL : L < B) (hb : Below B A C) : LI w C L pre :=
  ⟨(hb.block L hL).trans h.l, h.bl.trans (hb.mono (by omega))⟩
set_option maxHeartbeats 4000000 in
set_option maxRecDepth 100000 in
theorem last_any (E A : Nat) (ao : Option Addr) (nc cc : Nat) (tv : Value) (c : Int) (cs : List Ch) (P : Value → Value → Value → Ch → Prop) (w : World) (hE : BX w E 71 #[.pointer (some ⟨A, 0, none⟩), .slice ao nc cc, tv]) (hcs : CsAt P w (.slice ao nc cc) cs) (hao : ∀ g o, ao = some ⟨g, o, none⟩ → g < w.heap.size) :
    Calls Try.prog 45 #[.pointer (some ⟨E, 0, none⟩), .int .i64 c] w fun e w' => e = .returned (.int .i64 (lastC cs c cs.length)) ∧ Below w.heap.size w w' := by
  obtain ⟨L, hL⟩ : ∃ g, g = w.heap.size := ⟨_, rfl⟩
  have b1 := boxed_below w (.cells #[.int .i64 (-1)] 3)
  have x1 := BX.new w 3 #[.int .i64 (-1)]
  obtain ⟨W1, hW1⟩ : ∃ W, W = w.alloc (.cells #[.int .i64 (-1)] 3) := ⟨_, rfl⟩
  have s1 : W1.heap.size = w.heap.size + 1 := by rw [hW1]; exact World.size_alloc _ _
  rw [← hW1] at b1 x1
  rw [← hL] at x1
  obtain ⟨G1, hG1⟩ : ∃ g, g = W1.heap.size := ⟨_, rfl⟩
  obtain ⟨G2, hG2⟩ : ∃ g, g = W1.heap.size + 1 := ⟨_, rfl⟩
  have b2 := boxed_below W1 (.cells #[.pointer (some ⟨E, 0, none⟩)] 55)
  have x2 := BX.new W1 55 #[.pointer (some ⟨E, 0, none⟩)]
  obtain ⟨W2, hW2⟩ : ∃ W, W = W1.alloc (.cells #[.pointer (some ⟨E, 0, none⟩)] 55) := ⟨_, rfl⟩
  have s2 : W2.heap.size = W1.heap.size + 1 := by rw [hW2]; exact World.size_alloc _ _
  rw [← hW2] at b2 x2
  have b3 := boxed_below W2 (.cells #[.int .i64 c] 3)
  have x3 := BX.new W2 3 #[.int .i64 c]
  obtain ⟨W3, hW3⟩ : ∃ W, W = W2.alloc (.cells #[.int .i64 c] 3) := ⟨_, rfl⟩
  have s3 : W3.heap.size = W2.heap.size + 1 := by rw [hW3]; exact World.size_alloc _ _
  rw [← hW3] at b3 x3
  rw [← hG1] at x2
  rw [s2, ← hG2] at x3
  have b13 := b2.trans (b3.mono b2.size)
  have b03 := b1.trans (b13.mono b1.size)
  have hEl := lt_of_block hE
  have HSEQ := Lib.hid (fun n hn => of_seq n hn G1 G2 L E A ao nc cc tv c cs P W3 (x2.below b3) x3 (hE.below b03) (hcs.keep b03) ⟨by omega, by omega, by omega⟩ (fun g o e => by
    have := hao g o e
    omega))
  have HLI := Lib.hid (show LI w W3 L [] from ⟨x1.below b13, b03⟩)
  have HLT := Lib.hid (show w.heap.size ≤ L ∧ L < W3.heap.size ∧ w.heap.size ≤ W3.heap.size from ⟨by omega, by omega, by omega⟩)
  have HIT := Lib.hid (ofIt_any E c W1)
  have HW1 := Lib.hid (show L = w.heap.size ∧ _ from ⟨hL, hW1⟩)
  have HW3 := Lib.hid (show G1 = W1.heap.size ∧ G2 = G1 + 1 ∧ (W1.alloc (.cells #[.pointer (some ⟨E, 0, none⟩)] 55)).alloc (.cells #[.int .i64 c] 3) = W3 from ⟨hG1, by rw [hG1, hG2], by rw [hW3, hW2]⟩)
  clear hE hcs hao hEl b1 x1 hW1 s1 hL b2 x2 hW2 s2 b3 x3 hW3 s3 hG1 hG2 b13 b03
  refine (callsIn_wide (n := 3)).1 ?_
  refine callsIn_of_wp_marks Try.func45 rfl trivial ?_ rfl
  simp only [Try.ntmps45, List.size_toArray, List.length_cons, List.length_nil, Nat.reduceAdd, Nat.reduceSub, Array.replicate_succ, Array.replicate_zero, List.push_toArray, List.append_toArray, List.nil_append, List.cons_append]
  gi_wp2
  refine ⟨trivial, ?_⟩
  rw [← HW1.out.1, ← HW1.out.2]
  refine (callsIn_wide.2 HIT.out).mono ?_
  rintro e w7 ⟨rfl, rfl⟩
  rw [← HW3.out.1, ← HW3.out.2.1, HW3.out.2.2]
  gi_wp2
  refine range_goes rfl (by decide) (gf := 123) (lb := #[.pointer (some ⟨G1, 0, none⟩), .pointer (some ⟨G2, 0, none⟩)]) rfl trivial (enters_of Try.func123 (by kernel_rfl) rfl) (HSEQ.out 2 (by decide)) (fun h k => h.trans k) (fun W l o o' _ h h1 h2 => Kept.put W l o o' h h1 h2) (fun _ => rfl)
    (fun (pre : List Int) A => LI w A L pre) (fun s A C h hb => h.below HLT.out.1 HLT.out.2.1 hb) HLI.out
    (fun x => { tmps := #[.pointer (some ⟨E, 0, none⟩), .int .i64 c, undef, undef, .int .i64 0, .pointer (some ⟨L, 0, none⟩), .int .i64 x, .pointer (some ⟨E, 0, none⟩), .int .i64 c, .func (.func 123) #[] #[.pointer (some ⟨G1, 0, none⟩), .pointer (some ⟨G2, 0, none⟩)], .int .i64 x, undef, undef], defers := [] }) ?assign ?body ?done
  case assign =>
    intro l x W K hK
    gi_wp2
    exact hK
  case body =>
    rintro l pre x V hV _ _
    have y0 := hV.l.frozen 0
    have k0 := hV.l.cell 0 rfl
    have ht : Turn (fun j => j = L) V (V.setCell ⟨L, 0, none⟩ (.int .i64 x)) := Turn.setCell (S := fun j => j = L) (Turn.refl _ V) (Or.inl rfl) _
    have hn : BX (V.setCell ⟨L, 0, none⟩ (.int .i64 x)) L 3 #[.int .i64 x] := hV.l.set 0 _
    have hg : (pre ++ [x]).getLastD (-1) = x := by simp
    have HE := Lib.hid (show KeepsFrom W3.heap.size V (V.setCell ⟨L, 0, none⟩ (.int .i64 x)) ∧ Kept L V (V.setCell ⟨L, 0, none⟩ (.int .i64 x)) ∧ LI w (V.setCell ⟨L, 0, none⟩ (.int .i64 x)) L (pre ++ [x]) from
      ⟨⟨ht.size, fun k o hk ho _ => (ht.block k (Array.getElem?_eq_some_iff.1 ho).1 (fun e => by have := HLT.out; omega)).trans ho⟩, ⟨ht.size, fun k o hk ho _ => (ht.block k (Array.getElem?_eq_some_iff.1 ho).1 hk).trans ho⟩,
        ⟨by rw [hg]; exact hn, hV.bl.trans (ht.below (fun j e => by rw [show j = L from e]; exact HLT.out.1) hV.bl.size)⟩⟩)
    clear hV ht hn hg
    gi_wp2
    exact HE.out
  case done =>
    rintro D ys W hD hS hTI hK
    have hl : ys.getLastD (-1) = lastC cs c cs.length := by rw [hS, ofC_last]
    have k0 : W.cell? ⟨L, 0, none⟩ = some (.int .i64 (lastC cs c cs.length)) := by rw [← hl]; exact hTI.l.cell 0 rfl
    have HK9 := Lib.hid hK
    have HE := Lib.hid hTI.bl
    have HD := Lib.hid (show w.heap.size ≤ D from by have := HLT.out; omega)
    clear hl hTI hS hD hK
    gi_wp2
    refine ⟨by simp, .inl ⟨_, _, rfl, run_takeDeferred HK9.out, ?_⟩⟩
    exact ⟨_, results_tmp rfl _ _ _, rfl, HE.out.trans (belowK_b (w := w) (Nat.le_refl _) W D _ _ HD.out HK9.out rfl rfl)⟩
end Go.Proofs.Ytdbklklmpnlinaa

namespace Go.Proofs.Ytdbklklmpnlinaa
open Go.RowKit Go.Maps

/-- Was a cell cleared? -/
def clearedB (cs : List Ch) (c : Int) : Bool := if lastC cs c cs.length = -1 then false else (cAt cs (lastC cs c cs.length).toNat).em
theorem bne_neg1 (j : Nat) : (((j : Nat) : Int) != -1) = true := by
  rw [bne_iff_ne]
  omega
set_option maxHeartbeats 1000000 in
theorem isCleared_any (E A : Nat) (ao : Option Addr) (nc cc : Nat) (tv : Value) (c : Int) (cs : List Ch) (P : Value → Value → Value → Ch → Prop) (w : World) (hE : BX w E 71 #[.pointer (some ⟨A, 0, none⟩), .slice ao nc cc, tv]) (hcs : CsAt P w (.slice ao nc cc) cs) (hao : ∀ g o, ao = some ⟨g, o, none⟩ → g < w.heap.size) :
    Calls Try.prog 75 #[.pointer (some ⟨E, 0, none⟩), .int .i64 c] w fun e w' => e = .returned (.bool (clearedB cs c)) ∧ Below w.heap.size w w' := by
  have HL := Lib.hid (last_any E A ao nc cc tv c cs P w hE hcs hao)
  have HE := Lib.hid hE
  have HCS := Lib.hid hcs
  have hlen := hcs.len
  clear hE hcs hao
  unfold clearedB
  rcases lastC_is cs c cs.length with ⟨h1, _⟩ | ⟨j, h1, h2, _⟩
  · rw [h1] at HL ⊢
    rw [if_pos rfl]
    clear h1
    go_enter Try.func75, Try.ntmps75
    go_wp2_with fail
    refine HL.out.mono ?_
    rintro e w1 ⟨rfl, hb⟩
    have HB := Lib.hid hb
    clear hb
    go_wp2
    go_ret
    exact ⟨rfl, HB.out⟩
  · rw [h1] at HL ⊢
    rw [if_neg (by omega), Int.toNat_natCast]
    have hj : j < nc := by omega
    have hj' : (j : Int) < nc := by omega
    have hjn := bne_neg1 j
    obtain ⟨g, o, ak, nk, ck, av, nv, cv, ac, nn, cn, rfl, _, hc⟩ := HCS.out.get hj
    have HC := Lib.hid hc
    obtain ⟨em, hem⟩ : ∃ x, x = (cAt cs j).em := ⟨_, rfl⟩
    have HEM := Lib.hid hem
    rw [← hem]
    clear h1 h2 hc hem
    go_enter Try.func75, Try.ntmps75
    go_wp2_with fail
    refine HL.out.mono ?_
    rintro e w1 ⟨rfl, hb⟩
    have HB := Lib.hid hb
    have c1 := (HE.out.below hb).cell 1 rfl
    have q4 : w1.cell? ⟨g, o + j * 14 + 4, none⟩ = some (.bool em) := by rw [HEM.out]; exact HC.out w1 hb 4 (by decide)
    clear hb
    go_wp2
    go_ret
    exact ⟨rfl, HB.out⟩
set_option maxHeartbeats 1000000 in
theorem lead1_any (c ver x : Int) (g G : Nat) (w : World) (hb : w.cell? ⟨g, 0, none⟩ = some (.pointer (some ⟨G, 0, none⟩))) (hc : w.cell? ⟨G, 0, none⟩ = some (.int .i64 x)) :
    Calls Try.prog 119 #[.agg #[.int .i64 c, .int .u64 ver], .pointer (some ⟨g, 0, none⟩)] w fun e w' => e = .returned (.bool (decide (c = x))) ∧ Below w.heap.size w w' := by
  have hx := boxed_below w (.cells #[.int .i64 c, .int .u64 ver] 51)
  have n1 := BX.new w 51 #[.int .i64 c, .int .u64 ver]
  obtain ⟨S, hS⟩ : ∃ g, g = w.heap.size := ⟨_, rfl⟩
  rw [← hS] at n1
  obtain ⟨W1, hW1⟩ : ∃ W, W = w.alloc (.cells #[.int .i64 c, .int .u64 ver] 51) := ⟨_, rfl⟩
  rw [← hW1] at hx n1
  have d0 : W1.cell? ⟨g, 0, none⟩ = some (.pointer (some ⟨G, 0, none⟩)) := (hx.cell (p := ⟨g, 0, none⟩) (World.block_lt_of_cell? w _ hb)).trans hb
  have d1 : W1.cell? ⟨G, 0, none⟩ = some (.int .i64 x) := (hx.cell (p := ⟨G, 0, none⟩) (World.block_lt_of_cell? w _ hc)).trans hc
  have c0 := n1.cell 0 rfl
  have HX := Lib.hid hx
  have HW := Lib.hid (show S = w.heap.size ∧ _ from ⟨hS, hW1⟩)
  clear hx n1 hW1 hS hb hc
  by_cases h : c = x
  · rw [decide_eq_true h]
    have h2 : (c == x) = true := beq_iff_eq.2 h
    clear h
    go_enter Try.func119, Try.ntmps119
    go_upto_region 1 with fail
    rw [← HW.out.1, ← HW.out.2]
    clear HW
    go_quiet (fail)
    go_wp2
    go_ret
    exact ⟨rfl, HX.out.trans ⟨rfl, rfl, rfl, Nat.le_refl _, fun _ _ => rfl⟩⟩
  · rw [decide_eq_false h]
    have h2 : (c == x) = false := beq_eq_false_iff_ne.2 h
    clear h
    go_enter Try.func119, Try.ntmps119
    go_upto_region 1 with fail
    rw [← HW.out.1, ← HW.out.2]
    clear HW
    go_quiet (fail)
    go_wp2
    go_ret
    exact ⟨rfl, HX.out.trans ⟨rfl, rfl, rfl, Nat.le_refl _, fun _ _ => rfl⟩⟩
/-- The first one of a cell, of spares. -/
def FirstS (ts : List (Int × Int)) (c : Int) (z : Int) : Prop := (z = -1 ∧ ∀ j, j < ts.length → (nts ts j).1 ≠ c) ∨ ∃ i : Nat, z = i ∧ i < ts.length ∧ (nts ts i).1 = c ∧ ∀ j, j < i → (nts ts j).1 ≠ c
set_option maxHeartbeats 1000000 in
theorem idxLead_any (ao : Option Addr) (n c : Nat) (x : Int) (g G : Nat) (ss : List (Int × Int)) (w : World) (h : SpAt w (.slice ao n c) ss) (hb : w.cell? ⟨g, 0, none⟩ = some (.pointer (some ⟨G, 0, none⟩))) (hc : w.cell? ⟨G, 0, none⟩ = some (.int .i64 x)) :
    Calls Try.prog 118 #[.slice ao n c, .func (.func 119) #[] #[.pointer (some ⟨g, 0, none⟩)]] w fun e w' => ∃ z : Int, e = .returned (.int .i64 z) ∧ FirstS ss x z ∧ Below w.heap.size w w' := by
  have hl := h.len
  have HL := Lib.hid hl.1
  have hl2 := hl.2
  have HS := Lib.hid h
  have hlt0 : g < w.heap.size := World.block_lt_of_cell? w _ hb
  have hlt1 : G < w.heap.size := World.block_lt_of_cell? w _ hc
  have HC := Lib.hid (fun V (hbl : Below w.heap.size w V) => (show _ ∧ _ from ⟨(hbl.cell (p := ⟨g, 0, none⟩) hlt0).trans hb, (hbl.cell (p := ⟨G, 0, none⟩) hlt1).trans hc⟩))
  have HF := Lib.hid (fun c2 ver W h1 h2 => lead1_any c2 ver x g G W h1 h2)
  clear h hl hc hb hlt0 hlt1
  go_enter Try.func118, Try.ntmps118
  go_wp2
  go_loopw [8] (fun s wr => ∃ i : Nat, s = .int .i64 i ∧ i ≤ n ∧ Hid (Below w.heap.size w wr ∧ ∀ j, j < i → (nts ss j).1 ≠ x)) (fun s _ => n - (intOf s).toNat)
  case atStart => exact ⟨0, rfl, Nat.zero_le _, Lib.hid ⟨Below.refl _ _, fun j hj => absurd hj (Nat.not_lt_zero _)⟩⟩
  case round =>
    obtain ⟨i, rfl, hi, HV⟩ := hrel
    by_cases hlt : i < n
    · obtain ⟨g2, o, rfl, h1, h2⟩ := (HS.out.keep HV.out.1).get hlt
      obtain ⟨p, hp⟩ : ∃ p, p = nts ss i := ⟨_, rfl⟩
      rw [← hp] at h1 h2
      have HP := Lib.hid hp
      obtain ⟨a, v⟩ := p
      have HQ := Lib.hid (HF.out a v wr (HC.out wr HV.out.1).1 (HC.out wr HV.out.1).2)
      have hlt' : (i : Int) < n := by omega
      clear hp
      by_cases he : a = x
      · rw [decide_eq_true he] at HQ
        have HH := Lib.hid (show FirstS ss x i from Or.inr ⟨i, rfl, by have := HL.out; omega, by rw [← HP.out]; exact he, HV.out.2⟩)
        clear he
        go_wp2_with fail
        refine HQ.out.mono ?_
        rintro e w5 ⟨rfl, hb5⟩
        have HB5 := Lib.hid (HV.out.1.trans (hb5.mono HV.out.1.size))
        clear hb5 h1 h2
        go_wp2
        go_ret
        exact ⟨i, rfl, HH.out, HB5.out⟩
      · rw [decide_eq_false he] at HQ
        have HN : Hid (∀ j, j < i + 1 → (nts ss j).1 ≠ x) := Lib.hid (fun j hj => by
          by_cases e : j = i
          · subst e; rw [← HP.out]; exact he
          · exact HV.out.2 j (by omega))
        clear he
        go_wp2_with fail
        refine HQ.out.mono ?_
        rintro e w5 ⟨rfl, hb5⟩
        have HB5 := Lib.hid (HV.out.1.trans (hb5.mono HV.out.1.size))
        clear hb5 h1 h2
        go_wp2
        go_roundw
        case rel => exact ⟨i + 1, by go_num, by omega, Lib.hid ⟨HB5.out, HN.out⟩⟩
        case measure => simp [intOf]; omega
    · obtain rfl : i = n := by omega
      go_wp2
      go_ret
      exact ⟨-1, rfl, Or.inl ⟨rfl, fun j hj => HV.out.2 j (by have := HL.out; omega)⟩, HV.out.1⟩
end Go.Proofs.Ytdbklklmpnlinaa
