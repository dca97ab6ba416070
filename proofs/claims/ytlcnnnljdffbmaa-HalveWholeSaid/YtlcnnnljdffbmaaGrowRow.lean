/- Rows of the call's own that grow, beside a node's box: what stays when one of them grows, or a box is written. No program but types. -/
import Derived.Test.YtlcnnnljdffbmaaNodeTwo2
import Derived.Test.YtlcnnnljdffbmaaNodeSameOps
import Derived.Test.YtlcnnnljdffbmaaNods
import Derived.Deep.AppendLies
namespace Go.Proofs.Ytlcnnnljdffbmaa
open Go.RowKit

/-- A row of the call's own, of elements of one cell. -/
def OwnR (w : World) (B : Nat) (t : TypeId) (v : Value) (xs : List Value) : Prop := w.ownsRow B t 1 v xs.length xs
/-- A row's block, if there is one, has that type. -/
def InT (w : World) (r : Option Nat) (t : TypeId) : Prop := ∀ g, r = some g → ∃ cs fr, w.heap[g]? = some (.cells cs t fr)

section
variable {w w' : World} {B : Nat} {t t' : TypeId} {k n : Nat} {v : Value} {xs : List Value} {row : Option Nat}
theorem own_inT (h : w.ownsRow B t k v n xs) : InT w v.ownBlock t := by
  rcases h.2 with ⟨rfl, _⟩ | ⟨g, cap, cur, rfl, _, hg, _⟩
  · intro g h; cases h
  · intro g' h
    injection h with h
    subst h
    exact ⟨_, _, hg⟩
theorem nb_inT {A : Nat} {cs : Array Value} (h : NB w A cs) : InT w (some A) 26 := by
  intro g e
  injection e with e
  subst e
  exact ⟨_, _, h⟩
theorem inT_ne {g : Nat} {cs : Array Value} {fr : Nat × Nat} (h : w.heap[g]? = some (.cells cs t fr)) (hr : InT w row t') (hne : t ≠ t') : some g ≠ row := by
  intro e
  obtain ⟨c2, f2, e2⟩ := hr g e.symm
  rw [h] at e2
  injection e2 with e2
  injection e2 with _ e3 _
  exact hne e3
theorem own_keeps (h : w.ownsRow B t k v n xs) (hg : w.grownBy w' row) (hr : InT w row t') (hne : t ≠ t') : w'.ownsRow B t k v n xs := by
  refine h.kept hg ?_
  rcases h.2 with ⟨rfl, _⟩ | ⟨g, cap, cur, rfl, _, h1, _⟩
  · exact Or.inl rfl
  · exact Or.inr (inT_ne h1 hr hne)
theorem own_stays (h : w.ownsRow B t k v n xs) (hb : Below w.heap.size w w') : w'.ownsRow B t k v n xs := by
  refine ⟨h.1, ?_⟩
  rcases h.2 with hn | ⟨g, cap, cur, rfl, hbg, hg, rest⟩
  · exact Or.inl hn
  · exact Or.inr ⟨g, cap, cur, rfl, hbg, by rw [hb.block g (lt_of_block hg)]; exact hg, rest⟩
theorem own_base {C : Nat} (h : w.ownsRow B t k v n xs) (hc : C ≤ B) : w.ownsRow C t k v n xs := by
  refine ⟨h.1, ?_⟩
  rcases h.2 with hn | ⟨g, cap, cur, rfl, hbg, rest⟩
  · exact Or.inl hn
  · exact Or.inr ⟨g, cap, cur, rfl, by omega, rest⟩
theorem own_moved (h : w.ownsRow B t k v n xs) (hh : ∀ (g : Nat) (cs : Array Value), w.heap[g]? = some (Obj.cells cs t (0, 0)) → w'.heap[g]? = w.heap[g]?) : w'.ownsRow B t k v n xs := by
  refine ⟨h.1, ?_⟩
  rcases h.2 with hn | ⟨g, cap, cur, rfl, hbg, hg, rest⟩
  · exact Or.inl hn
  · exact Or.inr ⟨g, cap, cur, rfl, hbg, by rw [hh g cur hg]; exact hg, rest⟩
theorem own_wr5 {A : Nat} {cs : Array Value} (h : w.ownsRow B t k v n xs) (hA : NB w A cs) (hne : 26 ≠ t) (l : List (Nat × Value)) : (wr5 w A l).ownsRow B t k v n xs :=
  own_moved h (fun g c hg => wr5_far A g (by
    intro e
    subst e
    unfold NB at hA
    rw [hA] at hg
    injection hg with hg
    injection hg with _ e3 _
    exact hne e3) l w)
theorem NB.grown {A : Nat} {cs : Array Value} (h : NB w A cs) (hg : w.grownBy w' row) (hr : InT w row t') (hne : 26 ≠ t') : NB w' A cs :=
  (hg.block A (lt_of_block h) (inT_ne h hr hne)).trans h
theorem grown_set (w : World) (g i : Nat) (u : Value) : w.grownBy (w.setCell ⟨g, i, none⟩ u) (some g) :=
  ⟨rfl, rfl, rfl, by simp [World.setCell], fun k _ hne => Below.heap_setCell w ⟨g, i, none⟩ u k (fun e => hne (by rw [e]))⟩
theorem OwnR.nil (w : World) (B : Nat) (t : TypeId) : OwnR w B t (.slice none 0 0) [] := World.ownsRow_nil _ _ _ _
theorem OwnR.open (h : OwnR w B t v xs) : ∃ ao c, v = .slice ao xs.length c := by
  rcases h.2 with ⟨rfl, hz⟩ | ⟨g, cap, cur, rfl, _⟩
  · exact ⟨none, 0, by rw [hz]⟩
  · exact ⟨_, _, rfl⟩
theorem OwnR.rd (h : OwnR w B t v xs) : Rd w v xs := rd_of_owns h
theorem OwnR.keep (h : OwnR w B t v xs) (hb : Below w.heap.size w w') : OwnR w' B t v xs := own_stays h hb
theorem OwnR.far {ao : Option Addr} {n c : Nat} (h : OwnR w B t (.slice ao n c) xs) : Far B ao := by
  intro p hp
  rcases h.2 with ⟨e, _⟩ | ⟨g, cap, cur, e, hb, _⟩
  · injection e with e _ _
    rw [hp] at e; cases e
  · injection e with e _ _
    rw [hp] at e
    injection e with e
    rw [e]; exact hb
end
theorem news_one (w : World) (u : Value) (t : TypeId) : ∀ j x, [u][j]? = some x → (w.alloc (.cells #[u] t)).cell? ((⟨w.heap.size, 0, none⟩ : Addr).add j) = some x :=
  World.news_of_block (cs := #[u]) (heap_alloc_new w _)
theorem ones_s (s : ByteArray) : ∀ u ∈ [Value.string s], u.oneCell' = true := by intro u hu; simp at hu; rw [hu]; rfl
theorem ones_u (z : Int) : ∀ u ∈ [Value.int .u64 z], u.oneCell' = true := by intro u hu; simp at hu; rw [hu]; rfl

end Go.Proofs.Ytlcnnnljdffbmaa
