/- A view that a call made, as one thing: which cells it knows, its spares, what it lacks; which blocks may turn. No condition. A view that a call made: New, known, lack, Need, GiveUp, Again, Spares. No condition. A view that a call made: its map's three laws; At, Forget. No condition but that a cell's number is one. -/
import Derived.Test.YtgaacoeggikbpaaForestNo
import Derived.Test.YtgaacoeggikbpaaNods
namespace Go.Proofs.Ytgaacoeggikbpaa
open Go.RowKit Go.Maps

/-- Of the blocks that were there, only those of S have turned. -/
structure Turn (S : Nat → Prop) (w w' : World) : Prop where
  os : w'.os = w.os
  tape : w'.tape = w.tape
  output : w'.output = w.output
  size : w.heap.size ≤ w'.heap.size
  block : ∀ k, k < w.heap.size → ¬ S k → w'.heap[k]? = w.heap[k]?
theorem Turn.refl (S : Nat → Prop) (w : World) : Turn S w w := ⟨rfl, rfl, rfl, Nat.le_refl _, fun _ _ _ => rfl⟩
theorem Turn.trans {S : Nat → Prop} {a b c : World} (h : Turn S a b) (k : Turn S b c) : Turn S a c :=
  ⟨k.os.trans h.os, k.tape.trans h.tape, k.output.trans h.output, Nat.le_trans h.size k.size, fun i hi hn => (k.block i (Nat.lt_of_lt_of_le hi h.size) hn).trans (h.block i hi hn)⟩
theorem Turn.of {S : Nat → Prop} {w w' : World} (h : Below w.heap.size w w') : Turn S w w' := ⟨h.os, h.tape, h.output, h.size, fun k hk _ => h.block k hk⟩
theorem Turn.mono {S T : Nat → Prop} {w w' : World} (h : Turn S w w') (hs : ∀ k, k < w.heap.size → S k → T k) : Turn T w w' := ⟨h.os, h.tape, h.output, h.size, fun k hk hn => h.block k hk (fun e => hn (hs k hk e))⟩
theorem Turn.below {S : Nat → Prop} {w w' : World} {B : Nat} (h : Turn S w w') (hB : ∀ k, S k → B ≤ k) (hs : B ≤ w.heap.size) : Below B w w' :=
  ⟨h.os, h.tape, h.output, h.size, fun k hk => h.block k (Nat.lt_of_lt_of_le hk hs) (fun e => by have := hB k e; omega)⟩
theorem Turn.drew {S : Nat → Prop} {a w : World} (h : Turn S a w) : Turn S a w.drew := ⟨h.os, h.tape, h.output, h.size, h.block⟩
theorem Turn.drewN {S : Nat → Prop} {a w : World} (h : Turn S a w) (n : Nat) : Turn S a (w.drewN n) := ⟨h.os, h.tape, h.output, h.size, h.block⟩
theorem Turn.alloc {S : Nat → Prop} {a w : World} (h : Turn S a w) (o : Obj) : Turn S a (w.alloc o) := h.trans (Turn.of ((Below.refl _ _).alloc (Nat.le_refl _) o))
theorem Turn.setCell {S : Nat → Prop} {a w : World} (h : Turn S a w) {p : Addr} (hp : S p.block ∨ a.heap.size ≤ p.block) (u : Value) : Turn S a (w.setCell p u) :=
  ⟨h.os, h.tape, h.output, by show _ ≤ (w.setCell p u).heap.size; simp only [World.setCell, Array.size_modify]; exact h.size, fun k hk hn => (Below.heap_setCell w p u k (fun e => by
    rcases hp with hp | hp
    · exact hn (e ▸ hp)
    · omega)).trans (h.block k hk hn)⟩
theorem Turn.grown {S : Nat → Prop} {a w w' : World} {row : Option Nat} (h : Turn S a w) (hg : w.grownBy w' row) (hr : ∀ k, row = some k → S k ∨ a.heap.size ≤ k) : Turn S a w' :=
  ⟨hg.os.trans h.os, hg.tape.trans h.tape, hg.output.trans h.output, Nat.le_trans h.size hg.size, fun k hk hn => (hg.block k (Nat.lt_of_lt_of_le hk h.size) (fun e => by
    rcases hr k e.symm with hp | hp
    · exact hn hp
    · omega)).trans (h.block k hk hn)⟩
theorem Turn.then {S : Nat → Prop} {a w w' : World} (h : Turn S a w) (hb : Below w.heap.size w w') : Turn S a w' := h.trans (Turn.of hb)

/-- A row of the call's own, of elements of one cell. -/
def OwnT (w : World) (B : Nat) (t : TypeId) (v : Value) (xs : List Value) : Prop := w.ownsRow B t 1 v xs.length xs
theorem fv_moved {w w' : World} {B k n : Nat} {t : TypeId} {v : Value} {xs : List Value} (h : w.ownsRow B t k v n xs) (hh : ∀ (g : Nat) (cs : Array Value), w.heap[g]? = some (Obj.cells cs t (0, 0)) → w'.heap[g]? = w.heap[g]?) : w'.ownsRow B t k v n xs := by
  refine ⟨h.1, ?_⟩
  rcases h.2 with hn | ⟨g, cap, cur, rfl, hbg, hg, rest⟩
  · exact Or.inl hn
  · exact Or.inr ⟨g, cap, cur, rfl, hbg, by rw [hh g cur hg]; exact hg, rest⟩
theorem fv_stays {w w' : World} {B k n : Nat} {t : TypeId} {v : Value} {xs : List Value} (h : w.ownsRow B t k v n xs) (hb : Below w.heap.size w w') : w'.ownsRow B t k v n xs :=
  fv_moved h (fun g _ hg => hb.block g (lt_of_block hg))
theorem fv_base {w : World} {B C k n : Nat} {t : TypeId} {v : Value} {xs : List Value} (h : w.ownsRow B t k v n xs) (hc : C ≤ B) : w.ownsRow C t k v n xs := by
  refine ⟨h.1, ?_⟩
  rcases h.2 with hn | ⟨g, cap, cur, rfl, hbg, rest⟩
  · exact Or.inl hn
  · exact Or.inr ⟨g, cap, cur, rfl, Nat.le_trans hc hbg, rest⟩
theorem fv_block {w : World} {B k n : Nat} {t : TypeId} {v : Value} {xs : List Value} (h : w.ownsRow B t k v n xs) {g : Nat} (hg : v.ownBlock = some g) : B ≤ g ∧ ∃ cs, w.heap[g]? = some (.cells cs t (0, 0)) := by
  rcases h.2 with ⟨rfl, _⟩ | ⟨g', cap, cur, rfl, hbg, hh, _⟩
  · cases hg
  · injection hg with hg
    subst hg
    exact ⟨hbg, cur, hh⟩
theorem OwnT.open {w : World} {B : Nat} {t : TypeId} {v : Value} {xs : List Value} (h : OwnT w B t v xs) : ∃ ao c, v = .slice ao xs.length c := by
  rcases h.2 with ⟨rfl, hz⟩ | ⟨g, cap, cur, rfl, _⟩
  · exact ⟨none, 0, by rw [hz]⟩
  · exact ⟨_, _, rfl⟩
theorem OwnT.rd {w : World} {B : Nat} {t : TypeId} {v : Value} {xs : List Value} (h : OwnT w B t v xs) : Rd w v xs := rd_of_owns h

/-- What is known of a cell. -/
structure Kn where
  c : Int
  wd : Int
  vr : Int
  n : Nod
def Kn.zero : Kn := ⟨0, 0, 0, .none⟩
/-- The value of one, its rows' values given. -/
def Kn.val (k : Kn) (kv vv cv : Value) : Value := .agg #[.int .i64 k.c, .int .u64 k.wd, .int .u64 k.vr, .int .i64 k.n.lv, .string k.n.lo, .string k.n.hi, .bool k.n.la, .int .i64 k.n.nx, kv, vv, cv]
/-- A value that reads as what is known of a cell. -/
def KnV (w : World) (v : Value) (k : Kn) : Prop := ∃ (ak av ac : Option Addr) (ck cv cc : Nat), v = k.val (.slice ak k.n.ks.length ck) (.slice av k.n.vs.length cv) (.slice ac k.n.cs.length cc) ∧ NdAt w ak av ac k.n.ks.length ck k.n.vs.length cv k.n.cs.length cc k.n.ks k.n.vs k.n.cs
/-- The same, with rows of the view's own. -/
def KnO (w : World) (B : Nat) (v : Value) (k : Kn) : Prop := ∃ kv vv cv : Value, v = k.val kv vv cv ∧ OwnT w B 9 kv (k.n.ks.map Value.string) ∧ OwnT w B 30 vv (k.n.vs.map uv) ∧ OwnT w B 3 cv (k.n.cs.map (Value.int .i64))
theorem KnV.keep {w w' : World} {v : Value} {k : Kn} (h : KnV w v k) (hb : Below w.heap.size w w') : KnV w' v k := by
  obtain ⟨ak, av, ac, ck, cv, cc, e, hN⟩ := h
  exact ⟨ak, av, ac, ck, cv, cc, e, hN.keep hb⟩
theorem KnO.v {w : World} {B : Nat} {v : Value} {k : Kn} (h : KnO w B v k) : KnV w v k := by
  obtain ⟨kv, vv, cv, e, h1, h2, h3⟩ := h
  obtain ⟨ak, ck, rfl⟩ := h1.open
  obtain ⟨av, cv', rfl⟩ := h2.open
  obtain ⟨ac, cc, rfl⟩ := h3.open
  have r1 := h1.rd
  have r2 := h2.rd
  have r3 := h3.rd
  rw [List.length_map] at e r1
  rw [List.length_map] at e r2
  rw [List.length_map] at e r3
  exact ⟨ak, av, ac, ck, cv', cc, e, ⟨r1, r2, r3⟩⟩
theorem KnV.zero (w : World) : KnV w (Kn.zero.val (.slice none 0 0) (.slice none 0 0) (.slice none 0 0)) Kn.zero :=
  ⟨Option.none, Option.none, Option.none, 0, 0, 0, rfl, ⟨Rd.nil _, Rd.nil _, Rd.nil _⟩⟩

/-- No row of a node lies in a block of S. -/
def Off (w : World) (S : Nat → Prop) : Prop := ∀ g cs t, S g → w.heap[g]? = some (Obj.cells cs t (0, 0)) → t ≠ 9 ∧ t ≠ 30 ∧ t ≠ 3
theorem KnO.turn {S : Nat → Prop} {w w' : World} {B : Nat} {v : Value} {k : Kn} (h : KnO w B v k) (hS : Off w S) (ht : Turn S w w') : KnO w' B v k := by
  obtain ⟨kv, vv, cv, e, h1, h2, h3⟩ := h
  refine ⟨kv, vv, cv, e, fv_moved h1 (fun g cs hg => ht.block g (lt_of_block hg) (fun hs => (hS g cs _ hs hg).1 rfl)), fv_moved h2 (fun g cs hg => ht.block g (lt_of_block hg) (fun hs => (hS g cs _ hs hg).2.1 rfl)), fv_moved h3 (fun g cs hg => ht.block g (lt_of_block hg) (fun hs => (hS g cs _ hs hg).2.2 rfl))⟩
theorem KnO.keep {w w' : World} {B : Nat} {v : Value} {k : Kn} (h : KnO w B v k) (hb : Below w.heap.size w w') : KnO w' B v k := by
  obtain ⟨kv, vv, cv, e, h1, h2, h3⟩ := h
  exact ⟨kv, vv, cv, e, fv_stays h1 hb, fv_stays h2 hb, fv_stays h3 hb⟩
theorem KnO.base {w : World} {B C : Nat} {v : Value} {k : Kn} (h : KnO w B v k) (hc : C ≤ B) : KnO w C v k := by
  obtain ⟨kv, vv, cv, e, h1, h2, h3⟩ := h
  exact ⟨kv, vv, cv, e, fv_base h1 hc, fv_base h2 hc, fv_base h3 hc⟩

/-- The one of a cell. -/
def kfind (ks : List Kn) (c : Int) : Option Kn := ks.find? (fun k => decide (k.c = c))
def kdrop (ks : List Kn) (c : Int) : List Kn := ks.filter (fun k => !decide (k.c = c))
theorem kfind_drop (ks : List Kn) (a c : Int) : kfind (kdrop ks a) c = if c = a then none else kfind ks c := by
  induction ks with
  | nil => simp [kfind, kdrop]
  | cons k r ih =>
    unfold kfind kdrop at ih ⊢
    by_cases h1 : k.c = a
    · by_cases h2 : k.c = c
      · have : c = a := h2 ▸ h1
        rw [List.filter_cons_of_neg (by simp [h1]), ih, if_pos this, if_pos this]
      · rw [List.filter_cons_of_neg (by simp [h1]), ih, List.find?_cons_of_neg (by simp [h2])]
    · rw [List.filter_cons_of_pos (by simp [h1])]
      by_cases h2 : k.c = c
      · have : c ≠ a := fun e => h1 (h2.trans e)
        rw [List.find?_cons_of_pos (by simp [h2]), List.find?_cons_of_pos (by simp [h2]), if_neg this]
      · rw [List.find?_cons_of_neg (by simp [h2]), List.find?_cons_of_neg (by simp [h2]), ih]
theorem kfind_put (ks : List Kn) (k : Kn) (c : Int) : kfind (kdrop ks k.c ++ [k]) c = if c = k.c then some k else kfind ks c := by
  have h : kfind (kdrop ks k.c ++ [k]) c = (kfind (kdrop ks k.c) c).or (if k.c = c then some k else none) := by
    unfold kfind
    rw [List.find?_append]
    simp [List.find?_cons]
    split <;> simp_all
  rw [h, kfind_drop]
  by_cases h1 : c = k.c
  · simp [h1]
  · have : ¬ k.c = c := fun e => h1 e.symm
    simp [h1, this]

/-- How an element reads: as itself. -/
def knR (v : Value) : Option (DataW Value × List MemPlace) := some (.held v, [])
/-- What a map has. -/
structure Rel (w : World) (B : Nat) (D : DataW Value) (ks : List Kn) : Prop where
  miss : ∀ c, kfind ks c = none → Maps.has D (.int .i64 c) = false
  hit : ∀ c k, kfind ks c = some k → Maps.has D (.int .i64 c) = true ∧ ∃ v, (∀ z, D.atKey (.int .i64 c) z = .held v) ∧ KnO w B v k
theorem lit_ne {a c : Int} (h : c ≠ a) : (Lit.int .i64 c) ≠ Lit.int .i64 a := fun e => h (by injection e)
theorem keyLit (c : Int) : WideAt.IsKeyLit (.int .i64 c) := by simp [WideAt.IsKeyLit]
theorem Rel.turn {S : Nat → Prop} {w w' : World} {B : Nat} {D : DataW Value} {ks : List Kn} (h : Rel w B D ks) (hS : Off w S) (ht : Turn S w w') : Rel w' B D ks :=
  ⟨h.miss, fun c k hk => by
    obtain ⟨h1, v, h2, h3⟩ := h.hit c k hk
    exact ⟨h1, v, h2, h3.turn hS ht⟩⟩
theorem Rel.put {w : World} {B : Nat} {D : DataW Value} {ks : List Kn} {v : Value} {k : Kn} (h : Rel w B D ks) (hD : IsMap D) (hv : KnO w B v k) : Rel w B (D.put (.int .i64 k.c) (.held v)) (kdrop ks k.c ++ [k]) := by
  refine ⟨fun c hc => ?_, fun c k' hc => ?_⟩
  · rw [kfind_put] at hc
    by_cases h1 : c = k.c
    · rw [if_pos h1] at hc; cases hc
    · rw [if_neg h1] at hc
      rw [has_put_other (lit_ne h1)]
      exact h.miss c hc
  · rw [kfind_put] at hc
    by_cases h1 : c = k.c
    · rw [if_pos h1] at hc
      injection hc with hc
      subst hc
      subst h1
      exact ⟨has_put_same hD (keyLit _) _, v, fun z => atKey_put_same hD (keyLit _) _ z, hv⟩
    · rw [if_neg h1] at hc
      obtain ⟨h2, u, h3, h4⟩ := h.hit c k' hc
      exact ⟨by rw [has_put_other (lit_ne h1)]; exact h2, u, fun z => by rw [atKey_put_other (lit_ne h1)]; exact h3 z, h4⟩
theorem Rel.del {w : World} {B : Nat} {D : DataW Value} {ks : List Kn} (a : Int) (h : Rel w B D ks) : Rel w B (D.del (.int .i64 a)) (kdrop ks a) := by
  refine ⟨fun c hc => ?_, fun c k' hc => ?_⟩
  · rw [kfind_drop] at hc
    by_cases h1 : c = a
    · subst h1; exact has_del_same
    · rw [if_neg h1] at hc
      rw [has_del_other (lit_ne h1)]
      exact h.miss c hc
  · rw [kfind_drop] at hc
    by_cases h1 : c = a
    · rw [if_pos h1] at hc; cases hc
    · rw [if_neg h1] at hc
      obtain ⟨h2, u, h3, h4⟩ := h.hit c k' hc
      exact ⟨by rw [has_del_other (lit_ne h1)]; exact h2, u, fun z => by rw [atKey_del_other (lit_ne h1)]; exact h3 z, h4⟩

/-- Spares, as cells. -/
def spC : List (Int × Int) → List Value
  | [] => []
  | p :: l => .int .i64 p.1 :: .int .u64 p.2 :: spC l
/-- The blocks of a view that may turn. -/
def VS (A b : Nat) (sv : Value) (g : Nat) : Prop := g = A ∨ g = b ∨ sv.ownBlock = some g
theorem ownsMap_block14 {P : Program} {t : TypeId} {H : Type} {R : Value → Option (DataW H × List MemPlace)} {w w' : World} {b n : Nat} {D : DataW H} (h : w.ownsMap P t R b n D) (hb : w'.heap[b]? = w.heap[b]?) : w'.ownsMap P t R b n D := by
  obtain ⟨es, c, e, r⟩ := h
  exact ⟨es, c, hb.trans e, r⟩
theorem ownsMap_more {P : Program} {t : TypeId} {H : Type} {R : Value → Option (DataW H × List MemPlace)} {w : World} {b n n' : Nat} {D : DataW H} (h : w.ownsMap P t R b n D) (hn : n ≤ n') : w.ownsMap P t R b n' D := by
  obtain ⟨es, c, e, f, hs, r⟩ := h
  exact ⟨es, c, e, f, Nat.le_trans hs hn, r⟩
section
variable {w w' : World} {B A b N : Nat} {sv : Value} {ks : List Kn} {ss : List (Int × Int)} {k m : Int}
end
end Go.Proofs.Ytgaacoeggikbpaa

namespace Go.Proofs.Ytgaacoeggikbpaa
open Go.RowKit Go.Maps

def lackK (k : Int) (cb : Bool) (kk : Int) : Int := if k = 0 then (if cb = true then kk else 3) else k
def lackM (k m : Int) (cb : Bool) (mm : Int) : Int := if k = 0 then (if cb = true then mm else 0) else m

section
variable {B A b N : Nat} {sv : Value} {ks : List Kn} {ss : List (Int × Int)} {k m : Int}
end
end Go.Proofs.Ytgaacoeggikbpaa

namespace Go.Proofs.Ytgaacoeggikbpaa
open Go.RowKit Go.Maps

section
variable {B A b N : Nat} {sv : Value} {ks : List Kn} {ss : List (Int × Int)} {k m : Int}
theorem kn_bx {W : World} {g : Nat} {cs : Array Value} (h : BX W g 40 cs) : ∀ cs' t, W.heap[g]? = some (Obj.cells cs' t (0, 0)) → t ≠ 9 ∧ t ≠ 30 ∧ t ≠ 3 := fun cs' t e => by
  unfold BX at h
  rw [h] at e
  injection e with e
  injection e with _ e _
  subst e
  decide

/-- Cells of a result's box, written one behind the other: what was kept is kept. -/
def wr11 (W : World) (g : Nat) : List (Nat × Value) → World
  | [] => W
  | p :: l => wr11 (W.setCell ⟨g, p.1, none⟩ p.2) g l
theorem wr11_turn {S : Nat → Prop} {w : World} {g : Nat} (hg : S g ∨ w.heap.size ≤ g) : ∀ (l : List (Nat × Value)) (W : World), Turn S w W → Turn S w (wr11 W g l)
  | [], _, h => h
  | _ :: l, _, h => wr11_turn hg l _ (h.setCell hg _)
theorem wr11_far {g : Nat} {j : Nat} (hne : j ≠ g) : ∀ (l : List (Nat × Value)) (W : World), (wr11 W g l).heap[j]? = W.heap[j]?
  | [], _ => rfl
  | p :: l, W => (wr11_far hne l _).trans (Below.heap_setCell W ⟨g, p.1, none⟩ p.2 j hne)
theorem wr11_off {W : World} {B : Nat} {v : Value} {kn : Kn} {g : Nat} {cs : Array Value} (h : KnO W B v kn) (hb : BX W g 40 cs) (l : List (Nat × Value)) : KnO (wr11 W g l) B v kn :=
  h.turn (S := fun j => j = g) (fun j cs' t e hj => by subst e; exact kn_bx hb cs' t hj) (wr11_turn (S := fun j => j = g) (Or.inl rfl) l W (Turn.refl _ _))
end
end Go.Proofs.Ytgaacoeggikbpaa
