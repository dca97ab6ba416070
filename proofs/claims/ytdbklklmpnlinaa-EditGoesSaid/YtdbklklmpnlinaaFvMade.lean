/- A view that a call made, as one thing: which cells it knows, its spares, what it lacks; which blocks may turn. No condition. A view that a call made: New, known, lack, Need, GiveUp, Again, Spares. No condition. A view that a call made: its map's three laws; At, Forget. No condition but that a cell's number is one. -/
import Derived.Test.YtdbklklmpnlinaaForestNo
import Derived.Test.YtdbklklmpnlinaaNods
namespace Go.Proofs.Ytdbklklmpnlinaa
open Go.RowKit Go.Maps

/-- Of the blocks that were there, only those of S have turned. -/
structure Turn (S : Nat → Prop) (w w' : World) : Prop where
  os : w'.os = w.os
  tape : w'.tape = w.tape
  output : w'.output = w.output
  size : w.heap.size ≤ w'.heap.size
  block : ∀ k, k < w.heap.size → ¬ S k → w'.heap[k]? = w.heap[k]?
theorem Turn.refl (S : Nat → Prop) (w : World) : Turn S w w := ⟨rfl, rfl, rfl, Nat.le_refl _, fun _ _ _ => rfl⟩
theorem Turn.trans {S : Nat → Prop} {a b c : World} (h : Turn S a b) (k : Turn S b c) : Turn S a c :=
  ⟨k.os.trans h.os, k.tape.trans h.tape, k.output.trans h.output, Nat.le_trans h.size k.size, fun i hi hn => (k.block i (Nat.lt_of_lt_of_le hi h.size) hn).trans (h.block i hi hn)⟩
theorem Turn.of {S : Nat → Prop} {w w' : World} (h : Below w.heap.size w w') : Turn S w w' := ⟨h.os, h.tape, h.output, h.size, fun k hk _ => h.block k hk⟩
theorem Turn.mono {S T : Nat → Prop} {w w' : World} (h : Turn S w w') (hs : ∀ k, k < w.heap.size → S k → T k) : Turn T w w' := ⟨h.os, h.tape, h.output, h.size, fun k hk hn => h.block k hk (fun e => hn (hs k hk e))⟩
theorem Turn.below {S : Nat → Prop} {w w' : World} {B : Nat} (h : Turn S w w') (hB : ∀ k, S k → B ≤ k) (hs : B ≤ w.heap.size) : Below B w w' :=
  ⟨h.os, h.tape, h.output, h.size, fun k hk => h.block k (Nat.lt_of_lt_of_le hk hs) (fun e => by have := hB k e; omega)⟩
theorem Turn.drew {S : Nat → Prop} {a w : World} (h : Turn S a w) : Turn S a w.drew := ⟨h.os, h.tape, h.output, h.size, h.block⟩
theorem Turn.drewN {S : Nat → Prop} {a w : World} (h : Turn S a w) (n : Nat) : Turn S a (w.drewN n) := ⟨h.os, h.tape, h.output, h.size, h.block⟩
theorem Turn.alloc {S : Nat → Prop} {a w : World} (h : Turn S a w) (o : Obj) : Turn S a (w.alloc o) := h.trans (Turn.of ((Below.refl _ _).alloc (Nat.le_refl _) o))
theorem Turn.setCell {S : Nat → Prop} {a w : World} (h : Turn S a w) {p : Addr} (hp : S p.block ∨ a.heap.size ≤ p.block) (u : Value) : Turn S a (w.setCell p u) :=
  ⟨h.os, h.tape, h.output, by show _ ≤ (w.setCell p u).heap.size; simp only [World.setCell, Array.size_modify]; exact h.size, fun k hk hn => (Below.heap_setCell w p u k (fun e => by
    rcases hp with hp | hp
    · exact hn (e ▸ hp)
    · omega)).trans (h.block k hk hn)⟩
theorem Turn.grown {S : Nat → Prop} {a w w' : World} {row : Option Nat} (h : Turn S a w) (hg : w.grownBy w' row) (hr : ∀ k, row = some k → S k ∨ a.heap.size ≤ k) : Turn S a w' :=
  ⟨hg.os.trans h.os, hg.tape.trans h.tape, hg.output.trans h.output, Nat.le_trans h.size hg.size, fun k hk hn => (hg.block k (Nat.lt_of_lt_of_le hk h.size) (fun e => by
    rcases hr k e.symm with hp | hp
    · exact hn hp
    · omega)).trans (h.block k hk hn)⟩
theorem Turn.then {S : Nat → Prop} {a w w' : World} (h : Turn S a w) (hb : Below w.heap.size w w') : Turn S a w' := h.trans (Turn.of hb)

/-- A row of the call's own, of elements of one cell. -/
def OwnT (w : World) (B : Nat) (t : TypeId) (v : Value) (xs : List Value) : Prop := w.ownsRow B t 1 v xs.length xs
theorem fv_moved {w w' : World} {B k n : Nat} {t : TypeId} {v : Value} {xs : List Value} (h : w.ownsRow B t k v n xs) (hh : ∀ (g : Nat) (cs : Array Value), w.heap[g]? = some (Obj.cells cs t (0, 0)) → w'.heap[g]? = w.heap[g]?) : w'.ownsRow B t k v n xs := by
  refine ⟨h.1, ?_⟩
  rcases h.2 with hn | ⟨g, cap, cur, rfl, hbg, hg, rest⟩
  · exact Or.inl hn
  · exact Or.inr ⟨g, cap, cur, rfl, hbg, by rw [hh g cur hg]; exact hg, rest⟩
theorem fv_stays {w w' : World} {B k n : Nat} {t : TypeId} {v : Value} {xs : List Value} (h : w.ownsRow B t k v n xs) (hb : Below w.heap.size w w') : w'.ownsRow B t k v n xs :=
  fv_moved h (fun g _ hg => hb.block g (lt_of_block hg))
theorem fv_base {w : World} {B C k n : Nat} {t : TypeId} {v : Value} {xs : List Value} (h : w.ownsRow B t k v n xs) (hc : C ≤ B) : w.ownsRow C t k v n xs := by
  refine ⟨h.1, ?_⟩
  rcases h.2 with hn | ⟨g, cap, cur, rfl, hbg, rest⟩
  · exact Or.inl hn
  · exact Or.inr ⟨g, cap, cur, rfl, Nat.le_trans hc hbg, rest⟩
theorem fv_block {w : World} {B k n : Nat} {t : TypeId} {v : Value} {xs : List Value} (h : w.ownsRow B t k v n xs) {g : Nat} (hg : v.ownBlock = some g) : B ≤ g ∧ ∃ cs, w.heap[g]? = some (.cells cs t (0, 0)) := by
  rcases h.2 with ⟨rfl, _⟩ | ⟨g', cap, cur, rfl, hbg, hh, _⟩
  · cases hg
  · injection hg with hg
    subst hg
    exact ⟨hbg, cur, hh⟩
theorem OwnT.open {w : World} {B : Nat} {t : TypeId} {v : Value} {xs : List Value} (h : OwnT w B t v xs) : ∃ ao c, v = .slice ao xs.length c := by
  rcases h.2 with ⟨rfl, hz⟩ | ⟨g, cap, cur, rfl, _⟩
  · exact ⟨none, 0, by rw [hz]⟩
  · exact ⟨_, _, rfl⟩
theorem OwnT.rd {w : World} {B : Nat} {t : TypeId} {v : Value} {xs : List Value} (h : OwnT w B t v xs) : Rd w v xs := rd_of_owns h

/-- What is known of a cell. -/
structure Kn where
  c : Int
  wd : Int
  vr : Int
  n : Nod
def Kn.zero : Kn := ⟨0, 0, 0, .none⟩
/-- The value of one, its rows' values given. -/
def Kn.val (k : Kn) (kv vv cv : Value) : Value := .agg #[.int .i64 k.c, .int .u64 k.wd, .int .u64 k.vr, .int .i64 k.n.lv, .string k.n.lo, .string k.n.hi, .bool k.n.la, .int .i64 k.n.nx, kv, vv, cv]
/-- A value that reads as what is known of a cell. -/
def KnV (w : World) (v : Value) (k : Kn) : Prop := ∃ (ak av ac : Option Addr) (ck cv cc : Nat), v = k.val (.slice ak k.n.ks.length ck) (.slice av k.n.vs.length cv) (.slice ac k.n.cs.length cc) ∧ NdAt w ak av ac k.n.ks.length ck k.n.vs.length cv k.n.cs.length cc k.n.ks k.n.vs k.n.cs
/-- The same, with rows of the view's own. -/
def KnO (w : World) (B : Nat) (v : Value) (k : Kn) : Prop := ∃ kv vv cv : Value, v = k.val kv vv cv ∧ OwnT w B 9 kv (k.n.ks.map Value.string) ∧ OwnT w B 30 vv (k.n.vs.map uv) ∧ OwnT w B 3 cv (k.n.cs.map (Value.int .i64))
theorem KnV.keep {w w' : World} {v : Value} {k : Kn} (h : KnV w v k) (hb : Below w.heap.size w w') : KnV w' v k := by
  obtain ⟨ak, av, ac, ck, cv, cc, e, hN⟩ := h
  exact ⟨ak, av, ac, ck, cv, cc, e, hN.keep hb⟩
theorem KnO.v {w : World} {B : Nat} {v : Value} {k : Kn} (h : KnO w B v k) : KnV w v k := by
  obtain ⟨kv, vv, cv, e, h1, h2, h3⟩ := h
  obtain ⟨ak, ck, rfl⟩ := h1.open
  obtain ⟨av, cv', rfl⟩ := h2.open
  obtain ⟨ac, cc, rfl⟩ := h3.open
  have r1 := h1.rd
  have r2 := h2.rd
  have r3 := h3.rd
  rw [List.length_map] at e r1
  rw [List.length_map] at e r2
  rw [List.length_map] at e r3
  exact ⟨ak, av, ac, ck, cv', cc, e, ⟨r1, r2, r3⟩⟩
theorem KnV.zero (w : World) : KnV w (Kn.zero.val (.slice none 0 0) (.slice none 0 0) (.slice none 0 0)) Kn.zero :=
  ⟨Option.none, Option.none, Option.none, 0, 0, 0, rfl, ⟨Rd.nil _, Rd.nil _, Rd.nil _⟩⟩

/-- No row of a node lies in a block of S. -/
def Off (w : World) (S : Nat → Prop) : Prop := ∀ g cs t, S g → w.heap[g]? = some (Obj.cells cs t (0, 0)) → t ≠ 9 ∧ t ≠ 30 ∧ t ≠ 3
theorem KnO.turn {S : Nat → Prop} {w w' : World} {B : Nat} {v : Value} {k : Kn} (h : KnO w B v k) (hS : Off w S) (ht : Turn S w w') : KnO w' B v k := by
  obtain ⟨kv, vv, cv, e, h1, h2, h3⟩ := h
  refine ⟨kv, vv, cv, e, fv_moved h1 (fun g cs hg => ht.block g (lt_of_block hg) (fun hs => (hS g cs _ hs hg).1 rfl)), fv_moved h2 (fun g cs hg => ht.block g (lt_of_block hg) (fun hs => (hS g cs _ hs hg).2.1 rfl)), fv_moved h3 (fun g cs hg => ht.block g (lt_of_block hg) (fun hs => (hS g cs _ hs hg).2.2 rfl))⟩
theorem KnO.keep {w w' : World} {B : Nat} {v : Value} {k : Kn} (h : KnO w B v k) (hb : Below w.heap.size w w') : KnO w' B v k := by
  obtain ⟨kv, vv, cv, e, h1, h2, h3⟩ := h
  exact ⟨kv, vv, cv, e, fv_stays h1 hb, fv_stays h2 hb, fv_stays h3 hb⟩
theorem KnO.base {w : World} {B C : Nat} {v : Value} {k : Kn} (h : KnO w B v k) (hc : C ≤ B) : KnO w C v k := by
  obtain ⟨kv, vv, cv, e, h1, h2, h3⟩ := h
  exact ⟨kv, vv, cv, e, fv_base h1 hc, fv_base h2 hc, fv_base h3 hc⟩

/-- The one of a cell. -/
def kfind (ks : List Kn) (c : Int) : Option Kn := ks.find? (fun k => decide (k.c = c))
def kdrop (ks : List Kn) (c : Int) : List Kn := ks.filter (fun k => !decide (k.c = c))
theorem kfind_drop (ks : List Kn) (a c : Int) : kfind (kdrop ks a) c = if c = a then none else kfind ks c := by
  induction ks with
  | nil => simp [kfind, kdrop]
  | cons k r ih =>
    unfold kfind kdrop at ih ⊢
    by_cases h1 : k.c = a
    · by_cases h2 : k.c = c
      · have : c = a := h2 ▸ h1
        rw [List.filter_cons_of_neg (by simp [h1]), ih, if_pos this, if_pos this]
      · rw [List.filter_cons_of_neg (by simp [h1]), ih, List.find?_cons_of_neg (by simp [h2])]
    · rw [List.filter_cons_of_pos (by simp [h1])]
      by_cases h2 : k.c = c
      · have : c ≠ a := fun e => h1 (h2.trans e)
        rw [List.find?_cons_of_pos (by simp [h2]), List.find?_cons_of_pos (by simp [h2]), if_neg this]
      · rw [List.find?_cons_of_neg (by simp [h2]), List.find?_cons_of_neg (by simp [h2]), ih]
theorem kfind_put (ks : List Kn) (k : Kn) (c : Int) : kfind (kdrop ks k.c ++ [k]) c = if c = k.c then some k else kfind ks c := by
  have h : kfind (kdrop ks k.c ++ [k]) c = (kfind (kdrop ks k.c) c).or (if k.c = c then some k else none) := by
    unfold kfind
    rw [List.find?_append]
    simp [List.find?_cons]
    split <;> simp_all
  rw [h, kfind_drop]
  by_cases h1 : c = k.c
  · simp [h1]
  · have : ¬ k.c = c := fun e => h1 e.symm
    simp [h1, this]

/-- How an element reads: as itself. -/
def knR (v : Value) : Option (DataW Value × List MemPlace) := some (.held v, [])
/-- What a map has. -/
structure Rel (w : World) (B : Nat) (D : DataW Value) (ks : List Kn) : Prop where
  miss : ∀ c, kfind ks c = none → Maps.has D (.int .i64 c) = false
  hit : ∀ c k, kfind ks c = some k → Maps.has D (.int .i64 c) = true ∧ ∃ v, (∀ z, D.atKey (.int .i64 c) z = .held v) ∧ KnO w B v k
theorem lit_ne {a c : Int} (h : c ≠ a) : (Lit.int .i64 c) ≠ Lit.int .i64 a := fun e => h (by injection e)
theorem keyLit (c : Int) : WideAt.IsKeyLit (.int .i64 c) := by simp [WideAt.IsKeyLit]
theorem Rel.turn {S : Nat → Prop} {w w' : World} {B : Nat} {D : DataW Value} {ks : List Kn} (h : Rel w B D ks) (hS : Off w S) (ht : Turn S w w') : Rel w' B D ks :=
  ⟨h.miss, fun c k hk => by
    obtain ⟨h1, v, h2, h3⟩ := h.hit c k hk
    exact ⟨h1, v, h2, h3.turn hS ht⟩⟩
theorem Rel.put {w : World} {B : Nat} {D : DataW Value} {ks : List Kn} {v : Value} {k : Kn} (h : Rel w B D ks) (hD : IsMap D) (hv : KnO w B v k) : Rel w B (D.put (.int .i64 k.c) (.held v)) (kdrop ks k.c ++ [k]) := by
  refine ⟨fun c hc => ?_, fun c k' hc => ?_⟩
  · rw [kfind_put] at hc
    by_cases h1 : c = k.c
    · rw [if_pos h1] at hc; cases hc
    · rw [if_neg h1] at hc
      rw [has_put_other (lit_ne h1)]
      exact h.miss c hc
  · rw [kfind_put] at hc
    by_cases h1 : c = k.c
    · rw [if_pos h1] at hc
      injection hc with hc
      subst hc
      subst h1
      exact ⟨has_put_same hD (keyLit _) _, v, fun z => atKey_put_same hD (keyLit _) _ z, hv⟩
    · rw [if_neg h1] at hc
      obtain ⟨h2, u, h3, h4⟩ := h.hit c k' hc
      exact ⟨by rw [has_put_other (lit_ne h1)]; exact h2, u, fun z => by rw [atKey_put_other (lit_ne h1)]; exact h3 z, h4⟩
theorem Rel.del {w : World} {B : Nat} {D : DataW Value} {ks : List Kn} (a : Int) (h : Rel w B D ks) : Rel w B (D.del (.int .i64 a)) (kdrop ks a) := by
  refine ⟨fun c hc => ?_, fun c k' hc => ?_⟩
  · rw [kfind_drop] at hc
    by_cases h1 : c = a
    · subst h1; exact has_del_same
    · rw [if_neg h1] at hc
      rw [has_del_other (lit_ne h1)]
      exact h.miss c hc
  · rw [kfind_drop] at hc
    by_cases h1 : c = a
    · rw [if_pos h1] at hc; cases hc
    · rw [if_neg h1] at hc
      obtain ⟨h2, u, h3, h4⟩ := h.hit c k' hc
      exact ⟨by rw [has_del_other (lit_ne h1)]; exact h2, u, fun z => by rw [atKey_del_other (lit_ne h1)]; exact h3 z, h4⟩

/-- Spares, as cells. -/
def spC : List (Int × Int) → List Value
  | [] => []
  | p :: l => .int .i64 p.1 :: .int .u64 p.2 :: spC l
/-- The blocks of a view that may turn. -/
def VS (A b : Nat) (sv : Value) (g : Nat) : Prop := g = A ∨ g = b ∨ sv.ownBlock = some g
/-- A view that a call made: it knows ks, has the spares ss, and lacks (k, m); its map has no more than N. -/
structure FV (w : World) (B A b : Nat) (sv : Value) (N : Nat) (ks : List Kn) (ss : List (Int × Int)) (k m : Int) : Prop where
  view : BX w A 130 #[.map (some b), sv, .int .i64 k, .int .i64 m]
  map : ∃ D, w.ownsMap Try.prog 3 knR b N D ∧ Rel w B D ks
  sp : w.ownsRow B 51 2 sv ss.length (spC ss)
  ge : B ≤ A ∧ B ≤ b
  ne : A ≠ b
theorem ownsMap_block14 {P : Program} {t : TypeId} {H : Type} {R : Value → Option (DataW H × List MemPlace)} {w w' : World} {b n : Nat} {D : DataW H} (h : w.ownsMap P t R b n D) (hb : w'.heap[b]? = w.heap[b]?) : w'.ownsMap P t R b n D := by
  obtain ⟨es, c, e, r⟩ := h
  exact ⟨es, c, hb.trans e, r⟩
theorem ownsMap_more {P : Program} {t : TypeId} {H : Type} {R : Value → Option (DataW H × List MemPlace)} {w : World} {b n n' : Nat} {D : DataW H} (h : w.ownsMap P t R b n D) (hn : n ≤ n') : w.ownsMap P t R b n' D := by
  obtain ⟨es, c, e, f, hs, r⟩ := h
  exact ⟨es, c, e, f, Nat.le_trans hs hn, r⟩
section
variable {w w' : World} {B A b N : Nat} {sv : Value} {ks : List Kn} {ss : List (Int × Int)} {k m : Int}
theorem FV.off (h : FV w B A b sv N ks ss k m) : Off w (VS A b sv) := by
  obtain ⟨D, ⟨es, cl, hb, _⟩, _⟩ := h.map
  intro g cs t hS hg
  rcases hS with rfl | rfl | hS
  · have := h.view
    unfold BX at this
    rw [this] at hg
    injection hg with hg
    injection hg with _ e _
    subst e
    decide
  · rw [hb] at hg
    injection hg with hg
    cases hg
  · obtain ⟨_, cs', e'⟩ := fv_block h.sp hS
    rw [e'] at hg
    injection hg with hg
    injection hg with _ e _
    subst e
    decide
theorem FV.base (h : FV w B A b sv N ks ss k m) : ∀ g, VS A b sv g → B ≤ g := by
  intro g hg
  rcases hg with rfl | rfl | hg
  · exact h.ge.1
  · exact h.ge.2
  · exact (fv_block h.sp hg).1
theorem FV.lt (h : FV w B A b sv N ks ss k m) : A < w.heap.size ∧ b < w.heap.size ∧ ∀ g, sv.ownBlock = some g → g < w.heap.size := by
  obtain ⟨D, hm, _⟩ := h.map
  refine ⟨lt_of_block h.view, hm.lt, fun g hg => ?_⟩
  obtain ⟨_, _, e⟩ := fv_block h.sp hg
  exact lt_of_block e
theorem FV.apart (h : FV w B A b sv N ks ss k m) : ∀ g, sv.ownBlock = some g → g ≠ A ∧ g ≠ b := by
  intro g hg
  obtain ⟨_, cs, e⟩ := fv_block h.sp hg
  obtain ⟨D, ⟨es, cl, hb, _⟩, _⟩ := h.map
  refine ⟨fun e1 => ?_, fun e1 => ?_⟩
  · have := h.view
    unfold BX at this
    rw [← e1, e] at this
    injection this with this
    injection this with _ e2 _
    exact absurd e2 (by decide)
  · rw [← e1, e] at hb
    injection hb with hb
    cases hb
theorem FV.size (h : FV w B A b sv N ks ss k m) : B ≤ w.heap.size := Nat.le_trans h.ge.1 (Nat.le_of_lt h.lt.1)
theorem FV.keep (h : FV w B A b sv N ks ss k m) (hb : Below w.heap.size w w') : FV w' B A b sv N ks ss k m := by
  obtain ⟨D, hm, hr⟩ := h.map
  exact ⟨h.view.below hb, ⟨D, ownsMap_block14 hm (hb.block b hm.lt), hr.turn (S := fun _ => False) (fun _ _ _ e => e.elim) (Turn.of hb)⟩, fv_stays h.sp hb, h.ge, h.ne⟩
theorem FV.lack (h : FV w B A b sv N ks ss k m) (kk mm : Int) : FV ((w.setCell ⟨A, 2, none⟩ (.int .i64 kk)).setCell ⟨A, 3, none⟩ (.int .i64 mm)) B A b sv N ks ss kk mm := by
  obtain ⟨D, hm, hr⟩ := h.map
  have ht : Turn (VS A b sv) w ((w.setCell ⟨A, 2, none⟩ (.int .i64 kk)).setCell ⟨A, 3, none⟩ (.int .i64 mm)) := ((Turn.refl _ w).setCell (Or.inl (Or.inl rfl)) _).setCell (Or.inl (Or.inl rfl)) _
  refine ⟨?_, ⟨D, (hm.setCell (fun e => h.ne e.symm) _).setCell (fun e => h.ne e.symm) _, hr.turn h.off ht⟩, ?_, h.ge, h.ne⟩
  · have h1 := heap_setCell_same w A 2 _ _ (.int .i64 kk) h.view
    have h2 := heap_setCell_same _ A 3 _ _ (.int .i64 mm) h1
    exact h2
  · refine fv_moved h.sp (fun g cs hg => ?_)
    have hne : g ≠ A := by
      rintro rfl
      have := h.view
      unfold BX at this
      rw [this] at hg
      injection hg with hg
      injection hg with _ e _
      exact absurd e (by decide)
    exact (Below.heap_setCell _ _ _ _ hne).trans (Below.heap_setCell _ _ _ _ hne)
/-- A cell that is not the view's is written. -/
theorem FV.other (h : FV w B A b sv N ks ss k m) {p : Addr} (hp : ¬ VS A b sv p.block) (hT : ∀ cs t, w.heap[p.block]? = some (Obj.cells cs t (0, 0)) → t ≠ 9 ∧ t ≠ 30 ∧ t ≠ 3) (v : Value) : FV (w.setCell p v) B A b sv N ks ss k m := by
  obtain ⟨D, hm, hr⟩ := h.map
  have hA : A ≠ p.block := fun e => hp (Or.inl e.symm)
  have hb : b ≠ p.block := fun e => hp (Or.inr (Or.inl e.symm))
  refine ⟨(Below.heap_setCell _ _ _ _ hA).trans h.view, ⟨D, hm.setCell hb _, hr.turn (S := fun g => g = p.block) (fun g cs t e hg => ?_) (Turn.setCell (S := fun g => g = p.block) (Turn.refl _ w) (Or.inl rfl) v)⟩, ?_, h.ge, h.ne⟩
  · exact hT cs t (by rw [← e]; exact hg)
  · refine ⟨h.sp.1, ?_⟩
    rcases h.sp.2 with hn | ⟨g, cap, cur, e, hbg, hg, rest⟩
    · exact Or.inl hn
    · refine Or.inr ⟨g, cap, cur, e, hbg, ?_, rest⟩
      rw [Below.heap_setCell _ _ _ _ (fun e2 => hp (Or.inr (Or.inr (by rw [e]; exact congrArg some e2))))]
      exact hg
theorem FV.turn {T : Nat → Prop} (h : FV w B A b sv N ks ss k m) (ht : Turn T w w') (hd : ∀ j, VS A b sv j → ¬ T j) (ho : Off w T) : FV w' B A b sv N ks ss k m := by
  obtain ⟨D, hm, hr⟩ := h.map
  refine ⟨(ht.block A h.lt.1 (hd A (Or.inl rfl))).trans h.view, ⟨D, ownsMap_block14 hm (ht.block b h.lt.2.1 (hd b (Or.inr (Or.inl rfl)))), hr.turn ho ht⟩, ?_, h.ge, h.ne⟩
  refine ⟨h.sp.1, ?_⟩
  rcases h.sp.2 with hn | ⟨g, cap, cur, e, hbg, hg, rest⟩
  · exact Or.inl hn
  · exact Or.inr ⟨g, cap, cur, e, hbg, (ht.block g (lt_of_block hg) (hd g (Or.inr (Or.inr (by rw [e]; rfl))))).trans hg, rest⟩
end
end Go.Proofs.Ytdbklklmpnlinaa

namespace Go.Proofs.Ytdbklklmpnlinaa
open Go.RowKit Go.Maps

def lackK (k : Int) (cb : Bool) (kk : Int) : Int := if k = 0 then (if cb = true then kk else 3) else k
def lackM (k m : Int) (cb : Bool) (mm : Int) : Int := if k = 0 then (if cb = true then mm else 0) else m

theorem new_fv (w : World) : Calls Try.prog 69 #[] w fun e w' => ∃ A b, e = .returned (.pointer (some ⟨A, 0, none⟩)) ∧ FV w' w.heap.size A b (.slice none 0 0) 0 [] [] 0 0 ∧ Below w.heap.size w w' := by
  have hx := boxed_below w (.map #[] 0)
  have ho := World.ownsMap_made w Try.prog 3 knR
  obtain ⟨W1, hW1⟩ : ∃ W, W = w.alloc (.map #[] 0) := ⟨_, rfl⟩
  have hsz : W1.heap.size = w.heap.size + 1 := by rw [hW1, World.size_alloc]
  rw [← hW1] at hx ho
  have hx2 := boxed_below W1 (.cells #[.map (some w.heap.size), .slice none 0 0, .int .i64 0, .int .i64 0] 130)
  have hv := BX.new W1 130 #[.map (some w.heap.size), .slice none 0 0, .int .i64 0, .int .i64 0]
  have ho2 := ho.alloc (.cells #[.map (some w.heap.size), .slice none 0 0, .int .i64 0, .int .i64 0] 130)
  rw [hW1] at hx2 hv ho2 hsz
  rw [World.size_alloc] at hv
  have hmk : ∀ W, (Instr.makeMap 128 none).run Try.prog W = .ok (.map (some W.heap.size)) (W.alloc (.map #[] 0)) := fun W => run_makeMap _ W
  go_enter Try.func69, Try.ntmps69
  go_wp2
  go_ret
  refine ⟨_, w.heap.size, rfl, ⟨hv, ⟨_, ho2, ⟨fun _ _ => rfl, fun _ _ h => by cases h⟩⟩, World.ownsRow_nil _ _ _ _, ⟨?_, Nat.le_refl _⟩, ?_⟩, ?_⟩
  all_goals first | omega | exact (hW1 ▸ hx : Below w.heap.size w (w.alloc (.map #[] 0))).trans (hx2.mono (by rw [World.size_alloc]; omega))

section
variable {B A b N : Nat} {sv : Value} {ks : List Kn} {ss : List (Int × Int)} {k m : Int}
theorem known_fv (w : World) (h : FV w B A b sv N ks ss k m) : Calls Try.prog 82 #[.pointer (some ⟨A, 0, none⟩)] w fun e w' => e = .returned (.map (some b)) ∧ w = w' := by
  have c0 : w.cell? ⟨A, 0, none⟩ = some (.map (some b)) := h.view.cell 0 rfl
  have HI := Lib.hid (isMade_yes A b _ k m w h.view)
  clear h
  go_enter Try.func82, Try.ntmps82
  go_wp2_with fail
  refine HI.out.mono ?_
  rintro e w2 ⟨rfl, h2⟩
  rw [← h2]
  clear h2
  go_wp2
  go_ret
  exact ⟨rfl, rfl⟩

set_option maxHeartbeats 1000000 in
theorem lack_fv (cb : Bool) (kk mm : Int) (w : World) (h : FV w B A b sv N ks ss k m) : Calls Try.prog 83 #[.pointer (some ⟨A, 0, none⟩), .bool cb, .agg #[.int .i64 kk, .int .i64 mm]] w fun e w' => e = .returned (.tuple #[]) ∧ FV w' B A b sv N ks ss (lackK k cb kk) (lackM k m cb mm) ∧ Turn (VS A b sv) w w' := by
  have hx := boxed_below w (.cells #[.int .i64 kk, .int .i64 mm] 47)
  have n1 := BX.new w 47 #[.int .i64 kk, .int .i64 mm]
  obtain ⟨W1, hW1⟩ : ∃ W, W = w.alloc (.cells #[.int .i64 kk, .int .i64 mm] 47) := ⟨_, rfl⟩
  rw [← hW1] at hx n1
  have hm1 := h.keep hx
  have hlt := h.lt
  have hne : w.heap.size ≠ A := fun e => by omega
  have hne' : A ≠ w.heap.size := fun e => hne e.symm
  have hvs : ¬ VS A b sv w.heap.size := by
    rintro (e | e | e)
    · omega
    · omega
    · have := hlt.2.2 _ e; omega
  have hT : ∀ cs t, W1.heap[w.heap.size]? = some (Obj.cells cs t (0, 0)) → t ≠ 9 ∧ t ≠ 30 ∧ t ≠ 3 := fun cs t e => by
    unfold BX at n1
    rw [n1] at e
    injection e with e
    injection e with _ e _
    subst e
    decide
  have n2 : W1.setCell ⟨w.heap.size, 0, none⟩ (.int .i64 3) = W1.setCell ⟨w.heap.size, 0, none⟩ (.int .i64 3) := rfl
  have c2 : W1.cell? ⟨A, 2, none⟩ = some (.int .i64 k) := hm1.view.cell 2 rfl
  have c3 : W1.cell? ⟨A, 3, none⟩ = some (.int .i64 m) := hm1.view.cell 3 rfl
  have y2 := hm1.view.frozen 2
  have y3 := hm1.view.frozen 3
  have d0 : W1.cell? ⟨w.heap.size, 0, none⟩ = some (.int .i64 kk) := n1.cell 0 rfl
  have d1 : W1.cell? ⟨w.heap.size, 1, none⟩ = some (.int .i64 mm) := n1.cell 1 rfl
  have z0 := n1.frozen 0
  have z1 := n1.frozen 1
  have HI := Lib.hid (isMade_yes A b _ k m W1 hm1.view)
  have HX := Lib.hid (Turn.of (S := VS A b sv) hx)
  have HM := Lib.hid hm1
  have HW := Lib.hid hW1
  have HV := Lib.hid (show _ ∧ _ from ⟨hvs, hT⟩)
  have HN1 := Lib.hid n1
  clear h hx hW1 n1 hm1 hlt hvs hT n2
  by_cases hk : k = 0
  · subst hk
    cases cb with
    | true =>
      go_enter Try.func83, Try.ntmps83
      go_upto_region 1 with fail
      rw [← HW.out]
      clear HW
      go_wp2_with fail
      refine HI.out.mono ?_
      rintro e w2 ⟨rfl, h2⟩
      rw [← h2]
      clear h2
      go_wp2
      go_end0
      exact ⟨rfl, HM.out.lack kk mm, (HX.out.setCell (Or.inl (Or.inl rfl)) _).setCell (Or.inl (Or.inl rfl)) _⟩
    | false =>
      go_enter Try.func83, Try.ntmps83
      go_upto_region 1 with fail
      rw [← HW.out]
      clear HW
      go_wp2_with fail
      refine HI.out.mono ?_
      rintro e w2 ⟨rfl, h2⟩
      rw [← h2]
      clear h2
      go_wp2
      go_end0
      have hM1 := HM.out.other (p := ⟨w.heap.size, 0, none⟩) HV.out.1 HV.out.2 (.int .i64 3)
      have hN1 : BX (W1.setCell ⟨w.heap.size, 0, none⟩ (.int .i64 3)) w.heap.size 47 #[.int .i64 3, .int .i64 mm] := heap_setCell_same W1 w.heap.size 0 _ _ (.int .i64 3) HN1.out
      have hM2 := hM1.other (p := ⟨w.heap.size, 1, none⟩) HV.out.1 (fun cs t e => by
        unfold BX at hN1
        rw [hN1] at e
        injection e with e
        injection e with _ e _
        subst e
        decide) (.int .i64 0)
      exact ⟨rfl, hM2.lack 3 0, (((HX.out.setCell (Or.inr (Nat.le_refl _)) _).setCell (Or.inr (Nat.le_refl _)) _).setCell (Or.inl (Or.inl rfl)) _).setCell (Or.inl (Or.inl rfl)) _⟩
  · unfold lackK lackM
    rw [if_neg hk, if_neg hk]
    go_enter Try.func83, Try.ntmps83
    go_upto_region 1 with fail
    rw [← HW.out]
    clear HW
    go_wp2_with fail
    refine HI.out.mono ?_
    rintro e w2 ⟨rfl, h2⟩
    rw [← h2]
    clear h2
    go_wp2
    refine bodyPost_ret (v := .tuple #[]) (by simp [results, Try.results83, go_sem]) rfl ?_
    exact ⟨rfl, HM.out, HX.out⟩

theorem giveUp_fv (w : World) (h : FV w B A b sv N ks ss k m) : Calls Try.prog 76 #[.pointer (some ⟨A, 0, none⟩)] w fun e w' => e = .returned (.tuple #[]) ∧ FV w' B A b sv N ks ss (lackK k false 0) (lackM k m false 0) ∧ Turn (VS A b sv) w w' := by
  have HI := Lib.hid (lack_fv false 0 0 w h)
  clear h
  go_enter Try.func76, Try.ntmps76
  go_wp2_with fail
  refine HI.out.mono ?_
  rintro e w2 ⟨rfl, h2⟩
  have HB := Lib.hid h2
  clear h2
  go_wp2
  go_end0
  exact ⟨rfl, HB.out⟩
theorem spares_fv (ao : Option Addr) (n c : Nat) (w : World) (h : FV w B A b (.slice ao n c) N ks ss k m) : Calls Try.prog 84 #[.pointer (some ⟨A, 0, none⟩)] w fun e w' => e = .returned (.int .i64 (n : Nat)) ∧ w = w' := by
  have HI := Lib.hid (isMade_yes A b _ k m w h.view)
  have c1 : w.cell? ⟨A, 1, none⟩ = some (.slice ao n c) := h.view.cell 1 rfl
  clear h
  go_enter Try.func84, Try.ntmps84
  go_wp2_with fail
  refine HI.out.mono ?_
  rintro e w2 ⟨rfl, h2⟩
  rw [← h2]
  clear h2
  go_wp2
  go_ret
  exact ⟨rfl, rfl⟩
end
end Go.Proofs.Ytdbklklmpnlinaa

namespace Go.Proofs.Ytdbklklmpnlinaa
open Go.RowKit Go.Maps

section
variable {B A b N : Nat} {sv : Value} {ks : List Kn} {ss : List (Int × Int)} {k m : Int}
theorem flook_hit {w : World} (h : FV w B A b sv N ks ss k m) {c : Int} (hc : (Lit.int .i64 c).wf = true) {kn : Kn} (hk : kfind ks c = some kn) :
    ∃ v, (Instr.lookup 128 (.map (some b)) (.int .i64 c) true).run Try.prog w = .ok (.tuple #[v, .bool true]) w ∧ KnO w B v kn := by
  obtain ⟨D, hm, hr⟩ := h.map
  obtain ⟨h1, v, h2, h3⟩ := hr.hit c kn hk
  have hkey : keyOf Try.prog 3 (.int .i64 c) = some (.int .i64 c) := keyOf_int_mk Try.underlying3 hc
  obtain ⟨u, ps, hrun, hv⟩ := hm.look_ok keyedC Try.underlying128 (zeroKn w) (zd := .held (.agg #[.int .i64 0, .int .u64 0, .int .u64 0, .int .i64 0, .string ⟨#[]⟩, .string ⟨#[]⟩, .bool false, .int .i64 0, .slice none 0 0, .slice none 0 0, .slice none 0 0])) (zp := []) rfl hkey
  have hv1 : (DataW.held u : DataW Value) = D.atKey (.int .i64 c) (.held (.agg #[.int .i64 0, .int .u64 0, .int .u64 0, .int .i64 0, .string ⟨#[]⟩, .string ⟨#[]⟩, .bool false, .int .i64 0, .slice none 0 0, .slice none 0 0, .slice none 0 0])) := congrArg Prod.fst (Option.some.inj hv)
  rw [h2] at hv1
  have hv3 : u = v := DataW.held.inj hv1
  rw [hv3, h1] at hrun
  exact ⟨v, hrun, h3⟩
theorem flook_miss {w : World} (h : FV w B A b sv N ks ss k m) {c : Int} (hc : (Lit.int .i64 c).wf = true) (hk : kfind ks c = none) :
    (Instr.lookup 128 (.map (some b)) (.int .i64 c) true).run Try.prog w = .ok (.tuple #[.agg #[.int .i64 0, .int .u64 0, .int .u64 0, .int .i64 0, .string ⟨#[]⟩, .string ⟨#[]⟩, .bool false, .int .i64 0, .slice none 0 0, .slice none 0 0, .slice none 0 0], .bool false]) w := by
  obtain ⟨D, hm, hr⟩ := h.map
  have h1 := hr.miss c hk
  have hkey : keyOf Try.prog 3 (.int .i64 c) = some (.int .i64 c) := keyOf_int_mk Try.underlying3 hc
  obtain ⟨u, ps, hrun, hv⟩ := hm.look_ok keyedC Try.underlying128 (zeroKn w) (zd := .held (.agg #[.int .i64 0, .int .u64 0, .int .u64 0, .int .i64 0, .string ⟨#[]⟩, .string ⟨#[]⟩, .bool false, .int .i64 0, .slice none 0 0, .slice none 0 0, .slice none 0 0])) (zp := []) rfl hkey
  have hv1 : (DataW.held u : DataW Value) = D.atKey (.int .i64 c) (.held (.agg #[.int .i64 0, .int .u64 0, .int .u64 0, .int .i64 0, .string ⟨#[]⟩, .string ⟨#[]⟩, .bool false, .int .i64 0, .slice none 0 0, .slice none 0 0, .slice none 0 0])) := congrArg Prod.fst (Option.some.inj hv)
  rw [atKey_of_not_has h1] at hv1
  have hv3 := DataW.held.inj hv1
  rw [hv3, h1] at hrun
  exact hrun
theorem fv_turned {w w' : World} (h : FV w B A b sv N ks ss k m) (hg : w.grownBy w' (some b)) : BX w' A 130 #[.map (some b), sv, .int .i64 k, .int .i64 m] ∧ w'.ownsRow B 51 2 sv ss.length (spC ss) ∧ Turn (VS A b sv) w w' := by
  refine ⟨(hg.block A (lt_of_block h.view) (fun e => h.ne (by injection e))).trans h.view, h.sp.kept hg ?_, (Turn.refl _ _).grown hg (fun g e => by injection e with e; exact Or.inl (Or.inr (Or.inl e.symm)))⟩
  rcases h.sp.2 with ⟨e, _⟩ | ⟨g, cap, cur, e, _⟩
  · exact Or.inl (by rw [e]; rfl)
  · refine Or.inr (fun e2 => ?_)
    exact (h.apart g (by rw [e]; rfl)).2 (by rw [e] at e2; injection e2)
theorem fdrop {w : World} (h : FV w B A b sv N ks ss k m) {c : Int} (hc : (Lit.int .i64 c).wf = true) (ty : TypeId) :
    ∃ w', (Builtin.delete_ #[128, 3] ty #[.map (some b), .int .i64 c]).run Try.prog w = .ok (.tuple #[]) w' ∧ FV w' B A b sv N (kdrop ks c) ss k m ∧ Turn (VS A b sv) w w' := by
  obtain ⟨D, hm, hr⟩ := h.map
  have hkey : keyOf Try.prog 3 (.int .i64 c) = some (.int .i64 c) := keyOf_int_mk Try.underlying3 hc
  obtain ⟨w', hrun, hown, hturn⟩ := hm.drop keyedC Try.underlying128 hkey ty
  obtain ⟨h1, h2, h3⟩ := fv_turned h hturn.grown
  exact ⟨w', hrun, ⟨h1, ⟨_, hown, (hr.turn h.off h3).del c⟩, h2, h.ge, h.ne⟩, h3⟩
theorem fstore {w : World} (h : FV w B A b sv N ks ss k m) {kn : Kn} (hc : (Lit.int .i64 kn.c).wf = true) (cs : Array Value) (hv : KnO w B (.agg cs) kn) (hN : N < 1099511627776) :
    ∃ w', (Instr.mapUpdate 128 (.map (some b)) (.int .i64 kn.c) (.agg cs)).run Try.prog w = .ok () w' ∧ FV w' B A b sv (N + 1) (kdrop ks kn.c ++ [kn]) ss k m ∧ Turn (VS A b sv) w w' := by
  obtain ⟨D, hm, hr⟩ := h.map
  have hkey : keyOf Try.prog 3 (.int .i64 kn.c) = some (.int .i64 kn.c) := keyOf_int_mk Try.underlying3 hc
  obtain ⟨w', hrun, hown, hturn⟩ := hm.store keyedC Try.underlying128 (by unfold maxLen; omega) hkey (d := .held (.agg cs)) (ps := []) rfl
  obtain ⟨h1, h2, h3⟩ := fv_turned h hturn.grown
  exact ⟨w', hrun, ⟨h1, ⟨_, hown, (hr.turn h.off h3).put hm.isMap (hv.turn h.off h3)⟩, h2, h.ge, h.ne⟩, h3⟩

theorem not_vs {w : World} (h : FV w B A b sv N ks ss k m) {g : Nat} (hg : w.heap.size ≤ g) : ¬ VS A b sv g := by
  rintro (e | e | e)
  · have := h.lt.1; omega
  · have := h.lt.2.1; omega
  · have := h.lt.2.2 _ e; omega
theorem kn_bx {W : World} {g : Nat} {cs : Array Value} (h : BX W g 43 cs) : ∀ cs' t, W.heap[g]? = some (Obj.cells cs' t (0, 0)) → t ≠ 9 ∧ t ≠ 30 ∧ t ≠ 3 := fun cs' t e => by
  unfold BX at h
  rw [h] at e
  injection e with e
  injection e with _ e _
  subst e
  decide

/-- Cells of a result's box, written one behind the other: what was kept is kept. -/
def wr11 (W : World) (g : Nat) : List (Nat × Value) → World
  | [] => W
  | p :: l => wr11 (W.setCell ⟨g, p.1, none⟩ p.2) g l
theorem wr11_turn {S : Nat → Prop} {w : World} {g : Nat} (hg : S g ∨ w.heap.size ≤ g) : ∀ (l : List (Nat × Value)) (W : World), Turn S w W → Turn S w (wr11 W g l)
  | [], _, h => h
  | _ :: l, _, h => wr11_turn hg l _ (h.setCell hg _)
theorem wr11_far {g : Nat} {j : Nat} (hne : j ≠ g) : ∀ (l : List (Nat × Value)) (W : World), (wr11 W g l).heap[j]? = W.heap[j]?
  | [], _ => rfl
  | p :: l, W => (wr11_far hne l _).trans (Below.heap_setCell W ⟨g, p.1, none⟩ p.2 j hne)
theorem wr11_off {W : World} {B : Nat} {v : Value} {kn : Kn} {g : Nat} {cs : Array Value} (h : KnO W B v kn) (hb : BX W g 43 cs) (l : List (Nat × Value)) : KnO (wr11 W g l) B v kn :=
  h.turn (S := fun j => j = g) (fun j cs' t e hj => by subst e; exact kn_bx hb cs' t hj) (wr11_turn (S := fun j => j = g) (Or.inl rfl) l W (Turn.refl _ _))
theorem wr11_fv {W : World} {g : Nat} {cs : Array Value} (h : FV W B A b sv N ks ss k m) (hb : BX W g 43 cs) (hg : ¬ VS A b sv g) : ∀ (l : List (Nat × Value)), FV (wr11 W g l) B A b sv N ks ss k m
  | [] => h
  | p :: l => wr11_fv (W := W.setCell ⟨g, p.1, none⟩ p.2) (h.other (p := ⟨g, p.1, none⟩) hg (kn_bx hb) p.2) (heap_setCell_same W g p.1 _ _ p.2 hb) hg l

set_option maxHeartbeats 4000000 in
set_option maxRecDepth 100000 in
theorem at_hit (c : Int) (w : World) (hc : (Lit.int .i64 c).wf = true) (h : FV w B A b sv N ks ss k m) {kn : Kn} (hk : kfind ks c = some kn) :
    Calls Try.prog 46 #[.pointer (some ⟨A, 0, none⟩), .int .i64 c] w fun e w' => (∃ v, e = .returned (.tuple #[v, .bool true]) ∧ KnO w' B v kn) ∧ FV w' B A b sv N ks ss k m ∧ Below w.heap.size w w' := by
  have hx := boxed_below w (.cells #[.int .i64 0, .int .u64 0, .int .u64 0, .int .i64 0, .string ⟨#[]⟩, .string ⟨#[]⟩, .bool false, .int .i64 0, .slice none 0 0, .slice none 0 0, .slice none 0 0] 43)
  have n1 := BX.new w 43 #[.int .i64 0, .int .u64 0, .int .u64 0, .int .i64 0, .string ⟨#[]⟩, .string ⟨#[]⟩, .bool false, .int .i64 0, .slice none 0 0, .slice none 0 0, .slice none 0 0]
  obtain ⟨W1, hW1⟩ : ∃ W, W = w.alloc (.cells #[.int .i64 0, .int .u64 0, .int .u64 0, .int .i64 0, .string ⟨#[]⟩, .string ⟨#[]⟩, .bool false, .int .i64 0, .slice none 0 0, .slice none 0 0, .slice none 0 0] 43) := ⟨_, rfl⟩
  rw [← hW1] at hx n1
  have hm1 := h.keep hx
  have HI := Lib.hid (known_fv W1 hm1)
  obtain ⟨v, hlook, hv⟩ := flook_hit hm1 hc hk
  obtain ⟨kv, vv, cv', hval, o1, o2, o3⟩ := id hv
  obtain ⟨ak, ck, rfl⟩ := o1.open
  obtain ⟨av, cv, rfl⟩ := o2.open
  obtain ⟨ac, cc, rfl⟩ := o3.open
  generalize (kn.n.ks.map Value.string).length = nk at hval o1
  generalize (kn.n.vs.map uv).length = nv at hval o2
  generalize (kn.n.cs.map (Value.int .i64)).length = nc at hval o3
  unfold Kn.val at hval
  subst hval
  have hx2 := boxed_below W1 (.cells #[.int .i64 kn.c, .int .u64 kn.wd, .int .u64 kn.vr, .int .i64 kn.n.lv, .string kn.n.lo, .string kn.n.hi, .bool kn.n.la, .int .i64 kn.n.nx, .slice ak nk ck, .slice av nv cv, .slice ac nc cc] 43)
  have n2 := BX.new W1 43 #[.int .i64 kn.c, .int .u64 kn.wd, .int .u64 kn.vr, .int .i64 kn.n.lv, .string kn.n.lo, .string kn.n.hi, .bool kn.n.la, .int .i64 kn.n.nx, .slice ak nk ck, .slice av nv cv, .slice ac nc cc]
  obtain ⟨W2, hW2⟩ : ∃ W, W = W1.alloc (.cells #[.int .i64 kn.c, .int .u64 kn.wd, .int .u64 kn.vr, .int .i64 kn.n.lv, .string kn.n.lo, .string kn.n.hi, .bool kn.n.la, .int .i64 kn.n.nx, .slice ak nk ck, .slice av nv cv, .slice ac nc cc] 43) := ⟨_, rfl⟩
  rw [← hW2] at hx2 n2
  have hm2 := hm1.keep hx2
  have n12 := n1.below hx2
  have HV := Lib.hid (hv.keep hx2)
  have HX := Lib.hid (hx.trans (hx2.mono hx.size))
  have HM := Lib.hid hm2
  have HN := Lib.hid n12
  have HG := Lib.hid (not_vs h (Nat.le_refl _))
  have c0 : W2.cell? ⟨W1.heap.size, 0, none⟩ = some (.int .i64 kn.c) := n2.cell 0 rfl
  have c1 : W2.cell? ⟨W1.heap.size, 1, none⟩ = some (.int .u64 kn.wd) := n2.cell 1 rfl
  have c2 : W2.cell? ⟨W1.heap.size, 2, none⟩ = some (.int .u64 kn.vr) := n2.cell 2 rfl
  have c3 : W2.cell? ⟨W1.heap.size, 3, none⟩ = some (.int .i64 kn.n.lv) := n2.cell 3 rfl
  have c4 : W2.cell? ⟨W1.heap.size, 4, none⟩ = some (.string kn.n.lo) := n2.cell 4 rfl
  have c5 : W2.cell? ⟨W1.heap.size, 5, none⟩ = some (.string kn.n.hi) := n2.cell 5 rfl
  have c6 : W2.cell? ⟨W1.heap.size, 6, none⟩ = some (.bool kn.n.la) := n2.cell 6 rfl
  have c7 : W2.cell? ⟨W1.heap.size, 7, none⟩ = some (.int .i64 kn.n.nx) := n2.cell 7 rfl
  have c8 : W2.cell? ⟨W1.heap.size, 8, none⟩ = some (.slice ak nk ck) := n2.cell 8 rfl
  have c9 : W2.cell? ⟨W1.heap.size, 9, none⟩ = some (.slice av nv cv) := n2.cell 9 rfl
  have c10 : W2.cell? ⟨W1.heap.size, 10, none⟩ = some (.slice ac nc cc) := n2.cell 10 rfl
  have r0 : W2.cell? ⟨w.heap.size, 0, none⟩ = some (.int .i64 0) := n12.cell 0 rfl
  have r1 : W2.cell? ⟨w.heap.size, 1, none⟩ = some (.int .u64 0) := n12.cell 1 rfl
  have r2 : W2.cell? ⟨w.heap.size, 2, none⟩ = some (.int .u64 0) := n12.cell 2 rfl
  have r3 : W2.cell? ⟨w.heap.size, 3, none⟩ = some (.int .i64 0) := n12.cell 3 rfl
  have r4 : W2.cell? ⟨w.heap.size, 4, none⟩ = some (.string ⟨#[]⟩) := n12.cell 4 rfl
  have r5 : W2.cell? ⟨w.heap.size, 5, none⟩ = some (.string ⟨#[]⟩) := n12.cell 5 rfl
  have r6 : W2.cell? ⟨w.heap.size, 6, none⟩ = some (.bool false) := n12.cell 6 rfl
  have r7 : W2.cell? ⟨w.heap.size, 7, none⟩ = some (.int .i64 0) := n12.cell 7 rfl
  have r8 : W2.cell? ⟨w.heap.size, 8, none⟩ = some (.slice none 0 0) := n12.cell 8 rfl
  have r9 : W2.cell? ⟨w.heap.size, 9, none⟩ = some (.slice none 0 0) := n12.cell 9 rfl
  have r10 : W2.cell? ⟨w.heap.size, 10, none⟩ = some (.slice none 0 0) := n12.cell 10 rfl
  have y0 := n12.frozen 0
  have y1 := n12.frozen 1
  have y2 := n12.frozen 2
  have y3 := n12.frozen 3
  have y4 := n12.frozen 4
  have y5 := n12.frozen 5
  have y6 := n12.frozen 6
  have y7 := n12.frozen 7
  have y8 := n12.frozen 8
  have y9 := n12.frozen 9
  have y10 := n12.frozen 10
  have HW1 := Lib.hid hW1
  have HW2 := Lib.hid hW2
  have hz : W1.heap.size = w.heap.size + 1 := by rw [hW1, World.size_alloc]
  obtain ⟨g, hg⟩ : ∃ g, g = W1.heap.size := ⟨_, rfl⟩
  have hgz : w.heap.size ≠ g := by omega
  have hgz' : g ≠ w.heap.size := by omega
  have HGG := Lib.hid hg
  rw [← hg] at c0 c1 c2 c3 c4 c5 c6 c7 c8 c9 c10
  clear hm1 hm2 hx hx2 n1 n2 n12 hv h hk hc hW1 hW2 hg hz o1 o2 o3
  go_enter Try.func46, Try.ntmps46
  go_upto_region 1 with fail
  rw [← HW1.out]
  go_wp2_with fail
  refine HI.out.mono ?_
  rintro e w3 ⟨rfl, h3⟩
  rw [← h3]
  clear h3
  go_upto_region 2 with fail
  rw [← HW2.out, ← HGG.out]
  clear HW1 HW2 HGG
  go_wp2
  refine bodyPost_ret (v := .tuple #[.agg #[.int .i64 kn.c, .int .u64 kn.wd, .int .u64 kn.vr, .int .i64 kn.n.lv, .string kn.n.lo, .string kn.n.hi, .bool kn.n.la, .int .i64 kn.n.nx, .slice ak nk ck, .slice av nv cv, .slice ac nc cc], .bool true]) (by simp [results, Try.results46, go_sem, *]) rfl ?_
  have hvv := HV.out
  refine ⟨⟨_, rfl, ?_⟩, ?_, ?_⟩
  · exact wr11_off hvv HN.out [(0, _), (1, _), (2, _), (3, _), (4, _), (5, _), (6, _), (7, _), (8, _), (9, _), (10, _)]
  · exact wr11_fv HM.out HN.out HG.out [(0, _), (1, _), (2, _), (3, _), (4, _), (5, _), (6, _), (7, _), (8, _), (9, _), (10, _)]
  · exact (Turn.below (S := fun j => j = w.heap.size) (wr11_turn (S := fun j => j = w.heap.size) (Or.inl rfl) [(0, _), (1, _), (2, _), (3, _), (4, _), (5, _), (6, _), (7, _), (8, _), (9, _), (10, _)] W2 (Turn.refl _ _)) (fun j e => by rw [e]; exact Nat.le_refl _) HX.out.size |> fun q => HX.out.trans q)

set_option maxHeartbeats 4000000 in
set_option maxRecDepth 100000 in
theorem at_miss (c : Int) (w : World) (hc : (Lit.int .i64 c).wf = true) (h : FV w B A b sv N ks ss k m) (hk : kfind ks c = none) :
    Calls Try.prog 46 #[.pointer (some ⟨A, 0, none⟩), .int .i64 c] w fun e w' => e = .returned (.tuple #[.agg #[.int .i64 0, .int .u64 0, .int .u64 0, .int .i64 0, .string ⟨#[]⟩, .string ⟨#[]⟩, .bool false, .int .i64 0, .slice none 0 0, .slice none 0 0, .slice none 0 0], .bool false]) ∧ FV w' B A b sv N ks ss (lackK k (cellB c) 1) (lackM k m (cellB c) c) ∧ Turn (VS A b sv) w w' := by
  have hx := boxed_below w (.cells #[.int .i64 0, .int .u64 0, .int .u64 0, .int .i64 0, .string ⟨#[]⟩, .string ⟨#[]⟩, .bool false, .int .i64 0, .slice none 0 0, .slice none 0 0, .slice none 0 0] 43)
  have n1 := BX.new w 43 #[.int .i64 0, .int .u64 0, .int .u64 0, .int .i64 0, .string ⟨#[]⟩, .string ⟨#[]⟩, .bool false, .int .i64 0, .slice none 0 0, .slice none 0 0, .slice none 0 0]
  obtain ⟨W1, hW1⟩ : ∃ W, W = w.alloc (.cells #[.int .i64 0, .int .u64 0, .int .u64 0, .int .i64 0, .string ⟨#[]⟩, .string ⟨#[]⟩, .bool false, .int .i64 0, .slice none 0 0, .slice none 0 0, .slice none 0 0] 43) := ⟨_, rfl⟩
  rw [← hW1] at hx n1
  have hm1 := h.keep hx
  have HI := Lib.hid (known_fv W1 hm1)
  have hlook := flook_miss hm1 hc hk
  have hx2 := boxed_below W1 (.cells #[.int .i64 0, .int .u64 0, .int .u64 0, .int .i64 0, .string ⟨#[]⟩, .string ⟨#[]⟩, .bool false, .int .i64 0, .slice none 0 0, .slice none 0 0, .slice none 0 0] 43)
  have n2 := BX.new W1 43 #[.int .i64 0, .int .u64 0, .int .u64 0, .int .i64 0, .string ⟨#[]⟩, .string ⟨#[]⟩, .bool false, .int .i64 0, .slice none 0 0, .slice none 0 0, .slice none 0 0]
  obtain ⟨W2, hW2⟩ : ∃ W, W = W1.alloc (.cells #[.int .i64 0, .int .u64 0, .int .u64 0, .int .i64 0, .string ⟨#[]⟩, .string ⟨#[]⟩, .bool false, .int .i64 0, .slice none 0 0, .slice none 0 0, .slice none 0 0] 43) := ⟨_, rfl⟩
  rw [← hW2] at hx2 n2
  have hm2 := hm1.keep hx2
  have n12 := n1.below hx2
  have HCE := Lib.hid (fun W => fcell_any c W)
  have HL := Lib.hid (lack_fv (cellB c) 1 c W2 hm2)
  have HX := Lib.hid (hx.trans (hx2.mono hx.size))
  have HN1 := Lib.hid n12
  have HN2 := Lib.hid n2
  have HG := Lib.hid (not_vs h (Nat.le_refl _))
  have HG2 := Lib.hid (not_vs hm1 (Nat.le_refl _))
  have HW1 := Lib.hid hW1
  have HW2 := Lib.hid hW2
  have hz : W1.heap.size = w.heap.size + 1 := by rw [hW1, World.size_alloc]
  have hz2 : W2.heap.size = w.heap.size + 1 + 1 := by rw [hW2, World.size_alloc, hz]
  obtain ⟨g, hg⟩ : ∃ g, g = W1.heap.size := ⟨_, rfl⟩
  have hgz : w.heap.size ≠ g := by omega
  have hgz' : g ≠ w.heap.size := by omega
  have HGG := Lib.hid hg
  have HZ := Lib.hid (show w.heap.size < W2.heap.size ∧ g < W2.heap.size by omega)
  rw [← hg] at HN2 HG2
  clear hm1 hm2 hx hx2 n1 n2 n12 h hk hc hW1 hW2 hg hz hz2
  go_enter Try.func46, Try.ntmps46
  go_upto_region 1 with fail
  rw [← HW1.out]
  go_wp2_with fail
  refine HI.out.mono ?_
  rintro e w3 ⟨rfl, h3⟩
  rw [← h3]
  clear h3
  go_upto_region 2 with fail
  rw [← HW2.out, ← HGG.out]
  clear HW1 HW2 HGG
  go_wp2_with fail
  refine (HCE.out _).mono ?_
  rintro e w4 ⟨rfl, h4⟩
  rw [← h4]
  clear h4
  go_wp2_with fail
  refine HL.out.mono ?_
  rintro e w5 ⟨rfl, hm5, ht5⟩
  have n5 : BX w5 w.heap.size 43 #[.int .i64 0, .int .u64 0, .int .u64 0, .int .i64 0, .string ⟨#[]⟩, .string ⟨#[]⟩, .bool false, .int .i64 0, .slice none 0 0, .slice none 0 0, .slice none 0 0] := (ht5.block _ HZ.out.1 HG.out).trans HN1.out
  have g5 : BX w5 g 43 #[.int .i64 0, .int .u64 0, .int .u64 0, .int .i64 0, .string ⟨#[]⟩, .string ⟨#[]⟩, .bool false, .int .i64 0, .slice none 0 0, .slice none 0 0, .slice none 0 0] := (ht5.block _ HZ.out.2 HG2.out).trans HN2.out
  have HM := Lib.hid hm5
  have HN := Lib.hid n5
  have HT := Lib.hid ((Turn.of (S := VS A b sv) HX.out).trans (ht5.mono (fun _ _ e => e)))
  have c0 : w5.cell? ⟨g, 0, none⟩ = some (.int .i64 0) := g5.cell 0 rfl
  have c1 : w5.cell? ⟨g, 1, none⟩ = some (.int .u64 0) := g5.cell 1 rfl
  have c2 : w5.cell? ⟨g, 2, none⟩ = some (.int .u64 0) := g5.cell 2 rfl
  have c3 : w5.cell? ⟨g, 3, none⟩ = some (.int .i64 0) := g5.cell 3 rfl
  have c4 : w5.cell? ⟨g, 4, none⟩ = some (.string ⟨#[]⟩) := g5.cell 4 rfl
  have c5 : w5.cell? ⟨g, 5, none⟩ = some (.string ⟨#[]⟩) := g5.cell 5 rfl
  have c6 : w5.cell? ⟨g, 6, none⟩ = some (.bool false) := g5.cell 6 rfl
  have c7 : w5.cell? ⟨g, 7, none⟩ = some (.int .i64 0) := g5.cell 7 rfl
  have c8 : w5.cell? ⟨g, 8, none⟩ = some (.slice none 0 0) := g5.cell 8 rfl
  have c9 : w5.cell? ⟨g, 9, none⟩ = some (.slice none 0 0) := g5.cell 9 rfl
  have c10 : w5.cell? ⟨g, 10, none⟩ = some (.slice none 0 0) := g5.cell 10 rfl
  have r0 : w5.cell? ⟨w.heap.size, 0, none⟩ = some (.int .i64 0) := n5.cell 0 rfl
  have r1 : w5.cell? ⟨w.heap.size, 1, none⟩ = some (.int .u64 0) := n5.cell 1 rfl
  have r2 : w5.cell? ⟨w.heap.size, 2, none⟩ = some (.int .u64 0) := n5.cell 2 rfl
  have r3 : w5.cell? ⟨w.heap.size, 3, none⟩ = some (.int .i64 0) := n5.cell 3 rfl
  have r4 : w5.cell? ⟨w.heap.size, 4, none⟩ = some (.string ⟨#[]⟩) := n5.cell 4 rfl
  have r5 : w5.cell? ⟨w.heap.size, 5, none⟩ = some (.string ⟨#[]⟩) := n5.cell 5 rfl
  have r6 : w5.cell? ⟨w.heap.size, 6, none⟩ = some (.bool false) := n5.cell 6 rfl
  have r7 : w5.cell? ⟨w.heap.size, 7, none⟩ = some (.int .i64 0) := n5.cell 7 rfl
  have r8 : w5.cell? ⟨w.heap.size, 8, none⟩ = some (.slice none 0 0) := n5.cell 8 rfl
  have r9 : w5.cell? ⟨w.heap.size, 9, none⟩ = some (.slice none 0 0) := n5.cell 9 rfl
  have r10 : w5.cell? ⟨w.heap.size, 10, none⟩ = some (.slice none 0 0) := n5.cell 10 rfl
  have y0 := n5.frozen 0
  have y1 := n5.frozen 1
  have y2 := n5.frozen 2
  have y3 := n5.frozen 3
  have y4 := n5.frozen 4
  have y5 := n5.frozen 5
  have y6 := n5.frozen 6
  have y7 := n5.frozen 7
  have y8 := n5.frozen 8
  have y9 := n5.frozen 9
  have y10 := n5.frozen 10
  clear hm5 ht5 n5 g5
  go_wp2
  refine bodyPost_ret (v := .tuple #[.agg #[.int .i64 0, .int .u64 0, .int .u64 0, .int .i64 0, .string ⟨#[]⟩, .string ⟨#[]⟩, .bool false, .int .i64 0, .slice none 0 0, .slice none 0 0, .slice none 0 0], .bool false]) (by simp [results, Try.results46, go_sem, *]) rfl ?_
  refine ⟨rfl, ?_, ?_⟩
  · exact wr11_fv HM.out HN.out HG.out [(0, _), (1, _), (2, _), (3, _), (4, _), (5, _), (6, _), (7, _), (8, _), (9, _), (10, _)]
  · exact wr11_turn (Or.inr (Nat.le_refl _)) [(0, _), (1, _), (2, _), (3, _), (4, _), (5, _), (6, _), (7, _), (8, _), (9, _), (10, _)] w5 HT.out

theorem fok {w : World} (h : FV w B A b sv N ks ss k m) {c : Int} (hc : (Lit.int .i64 c).wf = true) : ∃ (kn : Kn) (kv vv cv : Value) (bb : Bool), (∃ a n c, kv = .slice a n c) ∧ (∃ a n c, vv = .slice a n c) ∧ (∃ a n c, cv = .slice a n c) ∧ bb = (kfind ks c).isSome ∧ (Instr.lookup 128 (.map (some b)) (.int .i64 c) true).run Try.prog w = .ok (.tuple #[kn.val kv vv cv, .bool bb]) w := by
  cases hk : kfind ks c with
  | none => exact ⟨Kn.zero, .slice none 0 0, .slice none 0 0, .slice none 0 0, false, ⟨_, _, _, rfl⟩, ⟨_, _, _, rfl⟩, ⟨_, _, _, rfl⟩, rfl, flook_miss h hc hk⟩
  | some kn =>
    obtain ⟨v, hrun, kv, vv, cv, rfl, h1, h2, h3⟩ := flook_hit h hc hk
    obtain ⟨a1, c1, rfl⟩ := h1.open
    obtain ⟨a2, c2, rfl⟩ := h2.open
    obtain ⟨a3, c3, rfl⟩ := h3.open
    exact ⟨kn, _, _, _, true, ⟨_, _, _, rfl⟩, ⟨_, _, _, rfl⟩, ⟨_, _, _, rfl⟩, rfl, hrun⟩
end
end Go.Proofs.Ytdbklklmpnlinaa
