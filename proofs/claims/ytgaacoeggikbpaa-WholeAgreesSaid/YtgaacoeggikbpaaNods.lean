/- A node as one thing; what is told of one: a node, or none, and whether. node.Check and the document's Sound with a definite answer. No condition of the texts but their sizes. -/
import Derived.Test.YtgaacoeggikbpaaNodeCheck3
import Derived.Test.YtgaacoeggikbpaaNodeRSound
import Derived.Test.YtgaacoeggikbpaaNodeTwo
namespace Go.Proofs.Ytgaacoeggikbpaa
open Go.RowKit

structure Nod where
  lv : Int
  nx : Int
  lo : ByteArray
  hi : ByteArray
  la : Bool
  ks : List ByteArray
  vs : List Nat
  cs : List Int
def Nod.none : Nod := ⟨0, 0, ⟨#[]⟩, ⟨#[]⟩, false, [], [], []⟩
def Nod.or (b : Bool) (n : Nod) : Nod := if b then n else .none
def Nod.Sound (n : Nod) (fan : Int) : Prop := SoundP n.lv n.nx n.lo n.hi n.la n.ks.length n.vs.length n.cs.length n.ks n.cs fan
def Nod.Same (n m : Nod) : Prop := SameP n.lv n.nx n.lo n.hi n.la n.ks n.vs n.cs m.lv m.nx m.lo m.hi m.la m.ks m.vs m.cs
theorem Nod.same (n : Nod) : n.Same n := ⟨rfl, rfl, rfl, rfl, rfl, rfl, rfl, rfl⟩
theorem Nod.same_eq {n m : Nod} (h : n.Same m) : n = m := by
  cases n; cases m
  obtain ⟨h1, h2, h3, h4, h5, h6, h7, h8⟩ := h
  simp only at h1 h2 h3 h4 h5 h6 h7 h8
  subst h1; subst h2; subst h3; subst h4; subst h5; subst h6; subst h7; subst h8
  rfl

/-- Sizes that are no matter. -/
structure Fit (lo hi : ByteArray) (ks : List ByteArray) (nk nv nc : Nat) : Prop where
  lo : lo.size ≤ 140737488355328
  hi : hi.size ≤ 140737488355328
  ks : ∀ x ∈ ks, x.size ≤ 140737488355328
  n : nk ≤ 274877906943 ∧ nv ≤ 274877906943 ∧ nc ≤ 274877906943

/-- A row's block is not below B. -/
def Far (B : Nat) (ao : Option Addr) : Prop := ∀ p, ao = some p → B ≤ p.block
theorem Far.of_new {w w' : World} {t : TypeId} {ao : Option Addr} {n c : Nat} {xs : List Value} (h : NewRow w w' t (.slice ao n c) xs) : Far w.heap.size ao := by
  intro p hp
  rcases h with ⟨g, h1, h2, _⟩ | ⟨h, _⟩
  · injection h1 with e _ _
    rw [hp] at e
    injection e with e
    rw [e]; exact h2
  · injection h with e _ _
    rw [hp] at e; cases e
theorem Far.base {B C : Nat} {ao : Option Addr} (h : Far C ao) (hb : B ≤ C) : Far B ao := fun p hp => Nat.le_trans hb (h p hp)
theorem Rd.off {w w' : World} {ao : Option Addr} {n c B : Nat} {xs : List Value} (h : Rd w (.slice ao n c) xs) (hf : Far B ao) (hb : ∀ g, B ≤ g → w'.heap[g]? = w.heap[g]?) : Rd w' (.slice ao n c) xs := by
  obtain ⟨ao', c', h1, h2, h3, h4⟩ := h
  refine ⟨ao', c', h1, h2, h3, fun hne => ?_⟩
  obtain ⟨g, o, e, hc⟩ := h4 hne
  refine ⟨g, o, e, fun j hj => ?_⟩
  injection h1 with e1 _ _
  have hg : B ≤ g := by
    have := hf ⟨g, o, none⟩ (by rw [e1, e])
    exact this
  have := hc j hj
  simp only [World.cell?] at this ⊢
  rw [hb g hg]
  exact this

/-- A node is told, and whether; its rows lie in new memory. -/
def GaveN (w w' : World) (e : Ending) (b : Bool) (n : Nod) : Prop :=
  ∃ (ak av ac : Option Addr) (ck cv cc : Nat), e = .returned (.tuple #[.agg #[.int .i64 n.lv, .string n.lo, .string n.hi, .bool n.la, .int .i64 n.nx, .slice ak n.ks.length ck, .slice av n.vs.length cv, .slice ac n.cs.length cc], .bool b]) ∧ NdAt w' ak av ac n.ks.length ck n.vs.length cv n.cs.length cc n.ks n.vs n.cs ∧ Below w.heap.size w w' ∧ (Far w.heap.size ak ∧ Far w.heap.size av ∧ Far w.heap.size ac)

/-- A node in a box, its rows not below B. -/
def BoxN (w : World) (B g : Nat) (n : Nod) : Prop :=
  ∃ (ak av ac : Option Addr) (ck cv cc : Nat), NB w g #[.int .i64 n.lv, .string n.lo, .string n.hi, .bool n.la, .int .i64 n.nx, .slice ak n.ks.length ck, .slice av n.vs.length cv, .slice ac n.cs.length cc] ∧ NdAt w ak av ac n.ks.length ck n.vs.length cv n.cs.length cc n.ks n.vs n.cs ∧ (Far B ak ∧ Far B av ∧ Far B ac)
theorem BoxN.keep {w w' : World} {B g : Nat} {n : Nod} (h : BoxN w B g n) (hb : Below w.heap.size w w') : BoxN w' B g n := by
  obtain ⟨ak, av, ac, ck, cv, cc, h1, h2, h3⟩ := h
  exact ⟨ak, av, ac, ck, cv, cc, h1.below hb, h2.keep hb, h3⟩

theorem check_of (lv nx : Int) (lo hi : ByteArray) (la : Bool) (ak av ac : Option Addr) (nk ck nv cv nc cc : Nat) (ks : List ByteArray) (vs : List Nat) (cs : List Int) (fan : Int) (b : Bool) (w : World) (hN : NdAt w ak av ac nk ck nv cv nc cc ks vs cs) (hf : Fit lo hi ks nk nv nc) (hb : b = true ↔ (4 ≤ fan ∧ fan ≤ 64) ∧ SoundP lv nx lo hi la nk nv nc ks cs fan) :
    Calls Try.prog 22 #[.agg #[.int .i64 lv, .string lo, .string hi, .bool la, .int .i64 nx, .slice ak nk ck, .slice av nv cv, .slice ac nc cc], .int .i64 fan] w fun e w' => ∃ c : Int, e = .returned (.int .i64 c) ∧ (c == 0) = b ∧ (c != 0) = !b ∧ Below w.heap.size w w' := by
  by_cases h : 4 ≤ fan ∧ fan ≤ 64
  · refine (check_fan lv nx lo hi la ak av ac nk ck nv cv nc cc ks vs cs fan h w hN hf.lo hf.hi hf.ks (by have := hf.n; omega)).mono ?_
    rintro e w' ⟨⟨rfl, hs⟩ | ⟨rfl, hs⟩, hB⟩
    · have : b = true := hb.2 ⟨h, hs⟩
      subst this
      exact ⟨_, rfl, rfl, rfl, hB⟩
    · have : b = false := bool_no hb (fun g => hs g.2)
      subst this
      exact ⟨_, rfl, rfl, rfl, hB⟩
  · refine (check_arg lv nx lo hi la ak av ac nk ck nv cv nc cc fan w (by omega)).mono ?_
    rintro e w' ⟨rfl, hB⟩
    have : b = false := bool_no hb (fun g => h g.1)
    subst this
    exact ⟨_, rfl, rfl, rfl, hB⟩
section
variable {W : World} {A : Nat} {c0 c1 c2 c3 c4 c5 c6 c7 : Value}
theorem NB.s0 (h : NB W A #[c0, c1, c2, c3, c4, c5, c6, c7]) (v : Value) : NB (W.setCell ⟨A, 0, none⟩ v) A #[v, c1, c2, c3, c4, c5, c6, c7] := h.set 0 v
theorem NB.s1 (h : NB W A #[c0, c1, c2, c3, c4, c5, c6, c7]) (v : Value) : NB (W.setCell ⟨A, 1, none⟩ v) A #[c0, v, c2, c3, c4, c5, c6, c7] := h.set 1 v
theorem NB.s2 (h : NB W A #[c0, c1, c2, c3, c4, c5, c6, c7]) (v : Value) : NB (W.setCell ⟨A, 2, none⟩ v) A #[c0, c1, v, c3, c4, c5, c6, c7] := h.set 2 v
theorem NB.s3 (h : NB W A #[c0, c1, c2, c3, c4, c5, c6, c7]) (v : Value) : NB (W.setCell ⟨A, 3, none⟩ v) A #[c0, c1, c2, v, c4, c5, c6, c7] := h.set 3 v
theorem NB.s4 (h : NB W A #[c0, c1, c2, c3, c4, c5, c6, c7]) (v : Value) : NB (W.setCell ⟨A, 4, none⟩ v) A #[c0, c1, c2, c3, v, c5, c6, c7] := h.set 4 v
theorem NB.s5 (h : NB W A #[c0, c1, c2, c3, c4, c5, c6, c7]) (v : Value) : NB (W.setCell ⟨A, 5, none⟩ v) A #[c0, c1, c2, c3, c4, v, c6, c7] := h.set 5 v
theorem NB.s6 (h : NB W A #[c0, c1, c2, c3, c4, c5, c6, c7]) (v : Value) : NB (W.setCell ⟨A, 6, none⟩ v) A #[c0, c1, c2, c3, c4, c5, v, c7] := h.set 6 v
theorem NB.s7 (h : NB W A #[c0, c1, c2, c3, c4, c5, c6, c7]) (v : Value) : NB (W.setCell ⟨A, 7, none⟩ v) A #[c0, c1, c2, c3, c4, c5, c6, v] := h.set 7 v
theorem wr8 (h : NB W A #[c0, c1, c2, c3, c4, c5, c6, c7]) (v0 v1 v2 v3 v4 v5 v6 v7 : Value) :
    NB (wr5 W A [(0, v0), (1, v1), (2, v2), (3, v3), (4, v4), (5, v5), (6, v6), (7, v7)]) A #[v0, v1, v2, v3, v4, v5, v6, v7] := by
  simp only [wr5]
  exact (((((((h.s0 v0).s1 v1).s2 v2).s3 v3).s4 v4).s5 v5).s6 v6).s7 v7
end
theorem wr5_mid {A : Nat} {lo hi : Nat} {w : World} (hA : A < lo ∨ hi ≤ A) : ∀ (l : List (Nat × Value)) (W : World), Mid lo hi w W → Mid lo hi w (wr5 W A l)
  | [], _, h => h
  | p :: l, _, h => wr5_mid hA l _ (h.set (a := ⟨A, p.1, none⟩) hA)
theorem wr5_size {A : Nat} : ∀ (l : List (Nat × Value)) (W : World), (wr5 W A l).heap.size = W.heap.size
  | [], _ => rfl
  | p :: l, W => by
    show (wr5 (W.setCell _ _) A l).heap.size = _
    rw [wr5_size l]
    simp [World.setCell]

end Go.Proofs.Ytgaacoeggikbpaa
