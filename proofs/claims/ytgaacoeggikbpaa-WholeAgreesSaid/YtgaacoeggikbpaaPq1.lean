/- Maps from numbers to counts, and to nodes. No condition but sizes. A range over a function whose iterator keeps a row and a map of its own, and whose body always goes on. No condition. What stays while a body of a range over a function turns one block alone. No condition. -/
import Derived.Test.YtgaacoeggikbpaaFvMade
import Derived.Maps.OwnOps
import Derived.RangeFuncNested
namespace Go.Proofs.Ytgaacoeggikbpaa
open Go.RowKit Go.Maps

theorem zeroInt (w : World) : (zeroValue 3).run Try.prog w = .ok (.int .i64 0) w := by kernel_rfl
theorem keyInt {c : Int} (hc : (Lit.int .i64 c).wf = true) : keyOf Try.prog 3 (.int .i64 c) = some (.int .i64 c) := keyOf_int_mk Try.underlying3 hc
/-- A map of counts. -/
def IM (w : World) (b N : Nat) (f : Int → Nat) : Prop := ∃ D : DataW Value, w.ownsMap Try.prog 3 (plainElem Try.prog 3) b N D ∧ ∀ c, D.atKey (.int .i64 c) (.lit (.int .i64 0)) = .lit (.int .i64 (f c))
theorem IM.made (w : World) : IM (w.alloc (.map #[] 0)) w.heap.size 0 (fun _ => 0) := ⟨_, World.ownsMap_made _ _ _ _, fun _ => rfl⟩
section
variable {w w' : World} {b N : Nat} {f : Int → Nat}
theorem IM.lt (h : IM w b N f) : b < w.heap.size := by obtain ⟨D, h1, _⟩ := h; exact h1.lt
theorem IM.block (h : IM w b N f) (hb : w'.heap[b]? = w.heap[b]?) : IM w' b N f := by
  obtain ⟨D, h1, h2⟩ := h
  exact ⟨D, ownsMap_block14 h1 hb, h2⟩
theorem IM.keep (h : IM w b N f) (hb : Below w.heap.size w w') : IM w' b N f := h.block (hb.block b h.lt)
theorem IM.nocells (h : IM w b N f) : ∀ cs t, w.heap[b]? = some (Obj.cells cs t (0, 0)) → False := by
  obtain ⟨D, ⟨es, cl, hb, _⟩, _⟩ := h
  intro cs t e
  rw [hb] at e
  cases e
set_option maxRecDepth 100000 in
theorem IM.look (h : IM w b N f) {c : Int} (hc : (Lit.int .i64 c).wf = true) : (Instr.lookup 53 (.map (some b)) (.int .i64 c) false).run Try.prog w = .ok (.int .i64 (f c)) w := by
  obtain ⟨D, h1, h2⟩ := h
  obtain ⟨z, hrun, hat, _⟩ := h1.lookup_int keyedC Try.underlying53 Try.underlying3 (zeroInt w) (keyInt hc)
  rw [h2 c] at hat
  injection hat with hat
  injection hat with _ hat
  rw [hrun, hat]
theorem IM.store (h : IM w b N f) (hN : N < 1099511627776) {x : Int} (hx : (Lit.int .i64 x).wf = true) (v : Nat) (hv : (v : Int) ≤ 9223372036854775807) :
    ∃ w', (Instr.mapUpdate 53 (.map (some b)) (.int .i64 x) (.int .i64 v)).run Try.prog w = .ok () w' ∧ IM w' b (N + 1) (fun c => if c = x then v else f c) ∧ Turn (fun j => j = b) w w' := by
  obtain ⟨D, h1, h2⟩ := h
  have hvw : (Lit.int .i64 (v : Int)).wf = true := by
    have e1 : IntKind.i64.min = -9223372036854775808 := by decide
    have e2 : IntKind.i64.max = 9223372036854775807 := by decide
    unfold Lit.wf
    rw [Bool.and_eq_true, decide_eq_true_iff, decide_eq_true_iff, e1, e2]
    omega
  obtain ⟨w', hrun, hown, hg⟩ := h1.update keyedC Try.underlying53 (by unfold maxLen; omega) (keyInt hx) (plainElem_int Try.underlying3 hvw)
  refine ⟨w', hrun, ⟨_, hown, fun c => ?_⟩, (Turn.refl _ w).grown hg (fun k hk => by injection hk with hk; exact Or.inl hk.symm)⟩
  by_cases e : c = x
  · subst e
    dsimp only
    rw [if_pos rfl, atKey_put_same h1.isMap (keyLit c)]
  · dsimp only
    rw [if_neg e, atKey_put_other (lit_ne e)]
    exact h2 c
end

/-- A node's value, its rows read in w0. -/
def NdV (w0 : World) (v : Value) (n : Nod) : Prop := ∃ (ak av ac : Option Addr) (ck cv cc : Nat), v = .agg #[.int .i64 n.lv, .string n.lo, .string n.hi, .bool n.la, .int .i64 n.nx, .slice ak n.ks.length ck, .slice av n.vs.length cv, .slice ac n.cs.length cc] ∧ NdAt w0 ak av ac n.ks.length ck n.vs.length cv n.cs.length cc n.ks n.vs n.cs
theorem NdV.keep {w w' : World} {v : Value} {n : Nod} (h : NdV w v n) (hb : Below w.heap.size w w') : NdV w' v n := by
  obtain ⟨ak, av, ac, ck, cv, cc, e, hN⟩ := h
  exact ⟨ak, av, ac, ck, cv, cc, e, hN.keep hb⟩
theorem NdV.zero (w : World) : NdV w (.agg #[.int .i64 0, .string ⟨#[]⟩, .string ⟨#[]⟩, .bool false, .int .i64 0, .slice none 0 0, .slice none 0 0, .slice none 0 0]) Nod.none :=
  ⟨none, none, none, 0, 0, 0, rfl, ⟨Rd.nil _, Rd.nil _, Rd.nil _⟩⟩
/-- A map of nodes. -/
def NM (w0 w : World) (b N : Nat) (ks : List Kn) : Prop := ∃ D : DataW Value, w.ownsMap Try.prog 3 knR b N D ∧ (∀ c, kfind ks c = none → Maps.has D (.int .i64 c) = false) ∧ ∀ c k, kfind ks c = some k → Maps.has D (.int .i64 c) = true ∧ ∃ v, (∀ z, D.atKey (.int .i64 c) z = .held v) ∧ NdV w0 v k.n
theorem NM.made (w0 w : World) : NM w0 (w.alloc (.map #[] 0)) w.heap.size 0 [] := ⟨_, World.ownsMap_made _ _ _ _, fun _ _ => rfl, fun _ _ h => by cases h⟩
section
variable {w0 w w' : World} {b N : Nat} {ks : List Kn}
theorem NM.lt (h : NM w0 w b N ks) : b < w.heap.size := by obtain ⟨D, h1, _⟩ := h; exact h1.lt
theorem NM.block (h : NM w0 w b N ks) (hb : w'.heap[b]? = w.heap[b]?) : NM w0 w' b N ks := by
  obtain ⟨D, h1, h2⟩ := h
  exact ⟨D, ownsMap_block14 h1 hb, h2⟩
theorem NM.keep (h : NM w0 w b N ks) (hb : Below w.heap.size w w') : NM w0 w' b N ks := h.block (hb.block b h.lt)
theorem NM.nocells (h : NM w0 w b N ks) : ∀ cs t, w.heap[b]? = some (Obj.cells cs t (0, 0)) → False := by
  obtain ⟨D, ⟨es, cl, hb, _⟩, _⟩ := h
  intro cs t e
  rw [hb] at e
  cases e
theorem zeroNd (w : World) : (zeroValue 38).run Try.prog w = .ok (.agg #[.int .i64 0, .string ⟨#[]⟩, .string ⟨#[]⟩, .bool false, .int .i64 0, .slice none 0 0, .slice none 0 0, .slice none 0 0]) w := by kernel_rfl
/-- The node of a cell; a plain one. -/
def nodOf (ks : List Kn) (c : Int) : Nod := match kfind ks c with | some k => k.n | none => Nod.none
theorem NM.look (h : NM w0 w b N ks) {c : Int} (hc : (Lit.int .i64 c).wf = true) :
    ∃ v, NdV w0 v (nodOf ks c) ∧ (Instr.lookup 52 (.map (some b)) (.int .i64 c) false).run Try.prog w = .ok v w ∧ (Instr.lookup 52 (.map (some b)) (.int .i64 c) true).run Try.prog w = .ok (.tuple #[v, .bool (kfind ks c).isSome]) w := by
  obtain ⟨D, h1, h2, h3⟩ := h
  obtain ⟨u, ps, hrun, hv⟩ := h1.lookup keyedC Try.underlying52 (zeroNd w) (zd := .held (.agg #[.int .i64 0, .string ⟨#[]⟩, .string ⟨#[]⟩, .bool false, .int .i64 0, .slice none 0 0, .slice none 0 0, .slice none 0 0])) (zp := []) rfl (keyInt hc)
  obtain ⟨u2, ps2, hrun2, hv2⟩ := h1.look_ok keyedC Try.underlying52 (zeroNd w) (zd := .held (.agg #[.int .i64 0, .string ⟨#[]⟩, .string ⟨#[]⟩, .bool false, .int .i64 0, .slice none 0 0, .slice none 0 0, .slice none 0 0])) (zp := []) rfl (keyInt hc)
  unfold nodOf
  cases hk : kfind ks c with
  | none =>
    have hz := atKey_of_not_has (h2 c hk)
    rw [hz] at hv hv2
    injection hv with hv
    injection hv with hv _
    injection hv with hv
    injection hv2 with hv2
    injection hv2 with hv2 _
    injection hv2 with hv2
    subst hv hv2
    refine ⟨_, NdV.zero w0, hrun, ?_⟩
    rw [hrun2, h2 c hk]
    rfl
  | some k =>
    obtain ⟨hh, v, hat, hnd⟩ := h3 c k hk
    rw [hat] at hv hv2
    injection hv with hv
    injection hv with hv _
    injection hv with hv
    injection hv2 with hv2
    injection hv2 with hv2 _
    injection hv2 with hv2
    subst hv hv2
    refine ⟨_, hnd, hrun, ?_⟩
    rw [hrun2, hh]
    rfl
theorem NM.store (h : NM w0 w b N ks) (hN : N < 1099511627776) {kn : Kn} (hx : (Lit.int .i64 kn.c).wf = true) {v : Value} (hv : NdV w0 v kn.n) (hnew : kfind ks kn.c = none) :
    ∃ w', (Instr.mapUpdate 52 (.map (some b)) (.int .i64 kn.c) v).run Try.prog w = .ok () w' ∧ NM w0 w' b (N + 1) (ks ++ [kn]) ∧ Turn (fun j => j = b) w w' := by
  obtain ⟨D, h1, h2, h3⟩ := h
  obtain ⟨w', hrun, hown, hg⟩ := h1.update keyedC Try.underlying52 (by unfold maxLen; omega) (keyInt hx) (val := v) (d := .held v) (ps := []) rfl
  have hf : ∀ c, kfind (ks ++ [kn]) c = if c = kn.c then some kn else kfind ks c := fun c => by
    unfold kfind at hnew ⊢
    rw [List.find?_append]
    by_cases e : c = kn.c
    · subst e
      rw [hnew, if_pos rfl]
      simp
    · rw [if_neg e]
      have : ¬ kn.c = c := fun h => e h.symm
      simp [this]
  refine ⟨w', hrun, ⟨_, hown, fun c hc => ?_, fun c k hc => ?_⟩, (Turn.refl _ w).grown hg (fun k hk => by injection hk with hk; exact Or.inl hk.symm)⟩
  · rw [hf c] at hc
    by_cases e : c = kn.c
    · rw [if_pos e] at hc; cases hc
    · rw [if_neg e] at hc
      rw [has_put_other (lit_ne e)]
      exact h2 c hc
  · rw [hf c] at hc
    by_cases e : c = kn.c
    · subst e
      rw [if_pos rfl] at hc
      injection hc with hc
      subst hc
      exact ⟨has_put_same h1.isMap (keyLit _) _, v, fun z => atKey_put_same h1.isMap (keyLit _) _ z, hv⟩
    · rw [if_neg e] at hc
      obtain ⟨q1, u, q2, q3⟩ := h3 c k hc
      exact ⟨by rw [has_put_other (lit_ne e)]; exact q1, u, fun z => by rw [atKey_put_other (lit_ne e)]; exact q2 z, q3⟩
end
end Go.Proofs.Ytgaacoeggikbpaa

namespace Go.Proofs.Ytgaacoeggikbpaa
open Go.RowKit

/-- An iterator's own step: what lay below B stays, and all that is neither cells nor a map nor a walk. -/
structure Stp (B : Nat) (A C : World) : Prop where
  b : Below B A C
  o : ∀ (k : Nat) (x : Obj), A.heap[k]? = some x → x.isCells = false → x.isWalk = false → C.heap[k]? = some x
theorem Stp.refl (B : Nat) (A : World) : Stp B A A := ⟨Below.refl _ _, fun _ _ h _ _ => h⟩
theorem Stp.trans {B : Nat} {A C E : World} (h : Stp B A C) (k : Stp B C E) : Stp B A E := ⟨h.b.trans k.b, fun i x h1 h2 h3 => k.o i x (h.o i x h1 h2 h3) h2 h3⟩
/-- What an iterator gives to a body that always goes on. -/
def SeqC {α : Type} (F : Fence) (n : Nat) (P : Program) (g : Nat) (lb : Array Value) (encs : α → Array Value) (Kp : World → World → Prop) (S : List α → Prop) (N : Nat) (w : World) : Prop :=
  ∀ (l : Nat) (J : List α → World → Prop) (W : World), Below w.heap.size w W → (∀ s A C, J s A → Stp W.heap.size A C → J s C) →
    (∀ pre x A, J pre A → pre.length < N → YieldAt F (n - 1) P l (encs x) A fun e C => e = .returned (.bool true) ∧ J (pre ++ [x]) C ∧ Kp A C) →
    J [] W → CallsIn F n P g (#[.func (.yield l) #[] #[]] ++ lb) W fun e C => (∃ v, e = .returned v) ∧ ∃ xs, S xs ∧ J xs C
/-- How a body that goes on ends. -/
def goesOut (B : Nat) (Kp : World → World → Prop) (I : World → Prop) (A : World) : Exit → Act → World → Prop
  | .normal, _, C => KeepsFrom B A C ∧ Kp A C ∧ I C
  | _, _, _ => False
set_option maxHeartbeats 1000000 in
theorem range_goes {F : Fence} {n : Nat} {P : Program} {α : Type} {g : Operand} {ps : Array Tmp} {assign body : Code} {Q : Exit → Act → World → Prop} {a : Act} {w : World}
    (hro : F.round = none) (h1 : 1 ≤ n) {gf : Nat} {lb : Array Value} (hg : a.eval g = .func (.func gf) #[] lb) (hFg : F.fn gf) (eg : ∀ args w, (callFunc gf args).run P w = .ok (.enter gf args) w)
    {encs : α → Array Value} {Kp : World → World → Prop} {S : List α → Prop} {N : Nat} (hseq : SeqC F (n - 1) P gf lb encs Kp S N w)
    (hKt : ∀ {A B C : World}, Kp A B → Kp B C → Kp A C) (hKb : ∀ (W : World) (l : Nat) (o o' : Obj), w.heap.size ≤ l → W.heap[l]? = some o → o.isCells = false → o.isWalk = false → Kp W (W.putObj l o')) (hps : ∀ x, (encs x).size = ps.size)
    (I : List α → World → Prop) (hI : ∀ s A C, I s A → Below w.heap.size A C → I s C) (h0 : I [] w) (a₁ : α → Act)
    (hassign : ∀ (l : Nat) (x : α) (W : World) (K : Act → World → Prop), K (a₁ x) W →
      assign.wpIn (F.inRound l) (n - 1 - 1) P (Exit.then K (fun _ _ _ => False)) { tmps := (ps.zip (encs x)).foldl (fun t (p, v) => t.setIfInBounds p v) a.tmps, defers := [] } W)
    (hbody : ∀ (l : Nat) (pre : List α) (x : α) (W : World), I pre W → w.heap.size ≤ W.heap.size → pre.length < N → body.wpIn (F.inRound l) (n - 1 - 1) P (goesOut w.heap.size Kp (I (pre ++ [x])) W) (a₁ x) W)
    (hdone : ∀ (D : Nat) (xs : List α) (W : World), w.heap.size ≤ D → S xs → I xs W → W.heap[D]? = some (.deferred (some [])) → Q .normal { a with defers := { target := .collected D, args := #[] } :: a.defers } W) :
    (Code.rangeFunc g ps assign body).wpIn F n P Q a w := by
  refine wpIn_rangeFunc (fun fn hfn => ?_)
  rw [hro]
  obtain ⟨D, hD⟩ : ∃ D, D = w.heap.size := ⟨_, rfl⟩
  obtain ⟨rc, hrc⟩ : ∃ rc : LoopState → Loop, rc = fun st => { state := st, pending := none, fn, tmps := a.tmps, params := ps, assign, body, defers := D } := ⟨_, rfl⟩
  have hent := run_enterLoop_outer (P := P) (w := w) fn a.tmps ps assign body
  rw [← hD] at hent
  rw [show ({ state := .ready, pending := none, fn, tmps := a.tmps, params := ps, assign, body, defers := D } : Loop) = rc .ready from by rw [hrc]] at hent
  obtain ⟨V, hV⟩ : ∃ V, V = (w.alloc (.deferred (some []))).alloc (.loop (rc .ready)) := ⟨_, rfl⟩
  rw [← hV] at hent
  have sV : V.heap.size = D + 1 + 1 := by rw [hV, World.size_alloc, World.size_alloc, hD]
  have vL : V.heap[D + 1]? = some (.loop (rc .ready)) := by
    have h := World.alloc_heap_new (w.alloc (.deferred (some []))) (.loop (rc .ready))
    rw [World.size_alloc, ← hD] at h
    rw [hV]
    exact h
  have vD : V.heap[D]? = some (.deferred (some [])) := by
    rw [hV]
    exact (Below.heap_alloc _ _ _ (by rw [World.size_alloc, ← hD]; omega)).trans (by rw [hD]; exact World.alloc_heap_new w _)
  have vB : Below w.heap.size w V := by
    rw [hV]
    exact ((Below.refl _ w).alloc (Nat.le_refl _) _).alloc (by rw [World.size_alloc]; omega) _
  refine ⟨D + 1, _, V, { target := .fn (.func gf) lb, args := #[.func (.yield (D + 1)) #[] #[]] }, V, gf, #[.func (.yield (D + 1)) #[] #[]] ++ lb, V, hent, ?_, ?_, ?_, fun _ => h1, ?_⟩
  · simp only [resolve, hg]
    simp [go_sem]
  · intro f' hf'
    simp [Target.leads] at hf'
    subst hf'
    exact hFg
  · simp [invoke, go_sem, eg]
  · refine (hseq (D + 1) (fun pre W => I pre W ∧ W.heap[D + 1]? = some (.loop (rc .ready)) ∧ W.heap[D]? = some (.deferred (some []))) V vB ?_ ?_ ⟨hI _ _ _ h0 vB, vL, vD⟩).mono ?_
    · rintro s A C ⟨i1, i2, i3⟩ hs
      exact ⟨hI _ _ _ i1 (hs.b.mono (by omega)), hs.o _ _ i2 rfl rfl, hs.o _ _ i3 rfl rfl⟩
    · rintro pre x A ⟨i1, i2, i3⟩ hlen
      have lA : D + 1 < A.heap.size := (Array.getElem?_eq_some_iff.1 i2).1
      have hy := run_yield (P := P) (args := encs x) i2 (by rw [hrc]; exact hps x)
      rw [hrc] at hy
      refine ⟨fn, _, assign, body, hy, roundIn_of_wpIn hfn (hassign _ x A _ ?_)⟩
      refine ⟨_, run_beginRound i2 (by rw [hrc]), ?_⟩
      obtain ⟨A2, hA2⟩ : ∃ A2, A2 = A.putObj (D + 1) (.loop { rc .ready with state := .busy }) := ⟨_, rfl⟩
      have aL : A2.heap[D + 1]? = some (.loop { rc .ready with state := .busy }) := by rw [hA2]; exact World.putObj_heap_same lA
      have aD : A2.heap[D]? = some (.deferred (some [])) := by rw [hA2]; exact (World.putObj_heap_other (by omega)).trans i3
      have aK : Kp A A2 := by rw [hA2]; exact hKb _ _ _ _ (by omega) i2 rfl rfl
      have aB : Below w.heap.size A A2 := by
        rw [hA2]
        exact (Below.refl _ A).grown (grownBy_putObj' A _ _) (by omega) (fun k e => by cases e; omega)
      rw [← hA2]
      refine wpIn_mono (hbody _ pre x A2 (hI _ _ _ i1 aB) (by have := aB.size; omega) hlen) ?_
      intro e a3 C hp
      cases e with
      | normal =>
        obtain ⟨c1, c2, c3⟩ := hp
        have cL := c1.same _ _ (by omega) aL rfl
        have cD := c1.same _ _ (by omega) aD rfl
        have lC : D + 1 < C.heap.size := (Array.getElem?_eq_some_iff.1 cL).1
        have hr := run_endRound (P := P) none cL
        have cB : Below w.heap.size C (C.putObj (D + 1) (.loop (rc .ready))) := (Below.refl _ C).grown (grownBy_putObj' C _ _) (by omega) (fun k e => by cases e; omega)
        have hrr : ({ ({ rc .ready with state := .busy } : Loop) with state := .ready, pending := none } : Loop) = rc .ready := by rw [hrc]
        refine ⟨_, _, hr, ?_⟩
        show _ ∧ _ ∧ _
        refine ⟨rfl, ⟨?_, ?_, ?_⟩, ?_⟩
        · exact hI _ _ _ c3 (by simpa [hrc] using cB)
        · simpa [hrc] using World.putObj_heap_same (o := .loop (rc .ready)) lC
        · exact (World.putObj_heap_other (by omega)).trans cD
        · exact hKt aK (hKt c2 (hKb _ _ _ _ (by omega) cL rfl rfl))
      | ret => exact hp.elim
      | exit id => exact hp.elim
      | goto t => exact hp.elim
      | panic ch => exact hp.elim
      | outgrown => exact hp.elim
    · rintro e C ⟨⟨v, rfl⟩, xs, hS, i1, i2, i3⟩
      have lC : D + 1 < C.heap.size := (Array.getElem?_eq_some_iff.1 i2).1
      obtain ⟨r, hr⟩ : ∃ r, r = rc .ready := ⟨_, rfl⟩
      rw [← hr] at i2
      have hp0 : r.pending = none := by rw [hr, hrc]
      have he := run_endLoop (P := P) i2 (by rw [hr, hrc]; simp)
      have cB : ∀ o, Below w.heap.size C (C.putObj (D + 1) o) := fun o => (Below.refl _ C).grown (grownBy_putObj' C _ _) (by omega) (fun k e => by cases e; omega)
      refine ⟨none, C.putObj (D + 1) (.loop { r with state := .exhausted }), he.trans (by rw [hp0]), ?_⟩
      exact hdone D xs _ (by omega) hS (hI _ _ _ i1 (cB _)) ((World.putObj_heap_other (by omega)).trans i3)
end Go.Proofs.Ytgaacoeggikbpaa

namespace Go.Proofs.Ytgaacoeggikbpaa
open Go.RowKit

/-- All cells and maps stay but block b. -/
structure Kept (b : Nat) (A C : World) : Prop where
  size : A.heap.size ≤ C.heap.size
  same : ∀ (k : Nat) (o : Obj), k ≠ b → A.heap[k]? = some o → (o.isCells = true ∨ o.isWalk = true) → C.heap[k]? = some o
theorem Kept.refl (b : Nat) (A : World) : Kept b A A := ⟨Nat.le_refl _, fun _ _ _ h _ => h⟩
theorem Kept.trans {b : Nat} {A C E : World} (h : Kept b A C) (k : Kept b C E) : Kept b A E := ⟨Nat.le_trans h.size k.size, fun i o h1 h2 h3 => k.same i o h1 (h.same i o h1 h2 h3) h3⟩
theorem Kept.below {b : Nat} {A C E : World} (h : Kept b A C) (k : Below A.heap.size C E) : Kept b A E := ⟨Nat.le_trans h.size k.size, fun i o h1 h2 h3 => (k.block i (Array.getElem?_eq_some_iff.1 h2).1).trans (h.same i o h1 h2 h3)⟩
theorem Kept.put {b : Nat} (W : World) (l : Nat) (o o' : Obj) (h : W.heap[l]? = some o) (h1 : o.isCells = false) (h2 : o.isWalk = false) : Kept b W (W.putObj l o') :=
  ⟨(grownBy_putObj' W l o').size, fun k x _ hk hx => (World.putObj_heap_other (fun e => by
    subst e
    rw [h] at hk
    cases hk
    rcases hx with hx | hx
    · rw [h1] at hx; cases hx
    · rw [h2] at hx; cases hx)).trans hk⟩
theorem Kept.bx {b G : Nat} {A C : World} {t : TypeId} {cs : Array Value} (h : Kept b A C) (hx : BX A G t cs) (hne : G ≠ b) : BX C G t cs := h.same G _ hne hx (Or.inl rfl)
theorem Kept.cell {b : Nat} {A C : World} (h : Kept b A C) {g o : Nat} {v : Value} (hne : g ≠ b) (hc : A.cell? ⟨g, o, none⟩ = some v) : C.cell? ⟨g, o, none⟩ = some v := by
  have hlt := World.block_lt_of_cell? A _ hc
  obtain ⟨x, hx⟩ : ∃ x, A.heap[g]? = some x := ⟨_, Array.getElem?_eq_getElem hlt⟩
  cases x with
  | cells cs t f =>
    have h2 := h.same g _ hne hx (Or.inl rfl)
    rw [← hc]
    unfold World.cell?
    simp only [hx, h2]
  | _ => simp [World.cell?, hx] at hc
theorem Stp.of_b {B : Nat} {A C : World} (hb : Below A.heap.size A C) (h : B ≤ A.heap.size) : Stp B A C := ⟨hb.mono h, fun k _ hk _ _ => (hb.block k (Array.getElem?_eq_some_iff.1 hk).1).trans hk⟩
end Go.Proofs.Ytgaacoeggikbpaa
