/- Writing into one of two copies: the other stays. No walk. -/
import Derived.Test.YtlcnnnljdffbmaaNodeTwo
namespace Go.Proofs.Ytlcnnnljdffbmaa
open Go.RowKit

theorem row_at {W0 W : World} {t : TypeId} {ao : Option Addr} {n k : Nat} {xs : List Value} (h : NewRow W0 W t (.slice ao n n) xs) (hk : k < n) : ∃ g, ao = some ⟨g, 0, none⟩ ∧ W0.heap.size ≤ g ∧ Whole W t g xs ∧ xs.length = n := by
  rcases h with ⟨g, h1, h2, h3⟩ | ⟨h, _⟩
  · injection h1 with e1 e2 e3
    exact ⟨g, e1, h2, h3, e2.symm⟩
  · injection h with _ e2 _
    omega

theorem Whole.set_ {W : World} {t : TypeId} {g : Nat} {xs : List Value} (h : Whole W t g xs) (k : Nat) (u : Value) : Whole (W.setCell ⟨g, k, none⟩ u) t g (xs.set k u) := by
  unfold Whole at *
  rw [heap_setCell_same W g k _ t u h]
  congr 2
  simp

theorem Whole.other {W : World} {t t' : TypeId} {g g' : Nat} {xs ys : List Value} (h : Whole W t g xs) (h' : Whole W t' g' ys) (hne : t ≠ t') : g ≠ g' := by
  intro e
  subst e
  unfold Whole at h h'
  rw [h] at h'
  injection h' with h'
  injection h' with _ h' _
  exact hne h'
theorem NB.other {W : World} {t : TypeId} {g g' : Nat} {cs : Array Value} {ys : List Value} (h : NB W g cs) (h' : Whole W t g' ys) (hne : 26 ≠ t) : g ≠ g' := by
  intro e
  subst e
  unfold NB at h
  unfold Whole at h'
  rw [h] at h'
  injection h' with h'
  injection h' with _ h' _
  exact hne h'

theorem NewRow.else_ {W0 W : World} {t t' : TypeId} {v : Value} {g k : Nat} {xs ys : List Value} (h : NewRow W0 W t v xs) (h' : Whole W t' g ys) (hne : t ≠ t') (u : Value) : NewRow W0 (W.setCell ⟨g, k, none⟩ u) t v xs := by
  rcases h with ⟨b, h1, h2, h3⟩ | h
  · refine Or.inl ⟨b, h1, h2, ?_⟩
    unfold Whole
    rw [Below.heap_setCell W ⟨g, k, none⟩ u b (h3.other h' hne)]
    exact h3
  · exact Or.inr h
theorem NewRow.apart {W0 W : World} {t : TypeId} {ao : Option Addr} {n m g k : Nat} {xs : List Value} (h : NewRow W0 W t (.slice ao n m) xs) (ha : Apart (some ⟨g, 0, none⟩) ao) (u : Value) : NewRow W0 (W.setCell ⟨g, k, none⟩ u) t (.slice ao n m) xs := by
  rcases h with ⟨b, h1, h2, h3⟩ | h
  · injection h1 with e1 e2 e3
    subst e1
    refine Or.inl ⟨b, by rw [e2, e3], h2, ?_⟩
    unfold Whole
    rw [Below.heap_setCell W ⟨g, k, none⟩ u b (fun e => ha g 0 b 0 rfl rfl e.symm)]
    exact h3
  · exact Or.inr h
theorem NewRow.wrote {W0 W : World} {t : TypeId} {n g k : Nat} {xs : List Value} (h : NewRow W0 W t (.slice (some ⟨g, 0, none⟩) n n) xs) (u : Value) : NewRow W0 (W.setCell ⟨g, k, none⟩ u) t (.slice (some ⟨g, 0, none⟩) n n) (xs.set k u) := by
  rcases h with ⟨b, h1, h2, h3⟩ | ⟨h, _⟩
  · injection h1 with e1 e2 e3
    injection e1 with e1
    injection e1 with e1 _ _
    subst e1
    exact Or.inl ⟨g, by rw [List.length_set, ← e2], h2, h3.set_ k u⟩
  · injection h with h; cases h

section
variable {W0 W : World} {gc gd g k : Nat} {lv nx : Int} {lo hi : ByteArray} {la : Bool} {ka va ca kb vb cb : Option Addr} {xk xv xc : List Value} {ks : List ByteArray} {vs : List Nat} {cs : List Int}
theorem TwoAt.setK (h : TwoAt W0 W gc gd lv nx lo hi la (some ⟨g, 0, none⟩) va ca kb vb cb xk xv xc ks vs cs) (hw : Whole W 9 g xk) (hg : W0.heap.size ≤ g) (u : Value) : TwoAt W0 (W.setCell ⟨g, k, none⟩ u) gc gd lv nx lo hi la (some ⟨g, 0, none⟩) va ca kb vb cb (xk.set k u) xv xc ks vs cs :=
  ⟨h.c.far (h.c.other hw (by decide)) u, h.d.far (h.d.other hw (by decide)) u, h.ck.wrote u, h.cv.else_ hw (by decide) u, h.cc.else_ hw (by decide) u, h.dk.apart h.ak u, h.dv.else_ hw (by decide) u, h.dc.else_ hw (by decide) u, h.ak, h.av, h.ac, h.b.setCell hg u⟩
theorem TwoAt.setV (h : TwoAt W0 W gc gd lv nx lo hi la ka (some ⟨g, 0, none⟩) ca kb vb cb xk xv xc ks vs cs) (hw : Whole W 50 g xv) (hg : W0.heap.size ≤ g) (u : Value) : TwoAt W0 (W.setCell ⟨g, k, none⟩ u) gc gd lv nx lo hi la ka (some ⟨g, 0, none⟩) ca kb vb cb xk (xv.set k u) xc ks vs cs :=
  ⟨h.c.far (h.c.other hw (by decide)) u, h.d.far (h.d.other hw (by decide)) u, h.ck.else_ hw (by decide) u, h.cv.wrote u, h.cc.else_ hw (by decide) u, h.dk.else_ hw (by decide) u, h.dv.apart h.av u, h.dc.else_ hw (by decide) u, h.ak, h.av, h.ac, h.b.setCell hg u⟩
theorem TwoAt.setC (h : TwoAt W0 W gc gd lv nx lo hi la ka va (some ⟨g, 0, none⟩) kb vb cb xk xv xc ks vs cs) (hw : Whole W 3 g xc) (hg : W0.heap.size ≤ g) (u : Value) : TwoAt W0 (W.setCell ⟨g, k, none⟩ u) gc gd lv nx lo hi la ka va (some ⟨g, 0, none⟩) kb vb cb xk xv (xc.set k u) ks vs cs :=
  ⟨h.c.far (h.c.other hw (by decide)) u, h.d.far (h.d.other hw (by decide)) u, h.ck.else_ hw (by decide) u, h.cv.else_ hw (by decide) u, h.cc.wrote u, h.dk.else_ hw (by decide) u, h.dv.else_ hw (by decide) u, h.dc.apart h.ac u, h.ak, h.av, h.ac, h.b.setCell hg u⟩

theorem TwoAt.keep {W' : World} (h : TwoAt W0 W gc gd lv nx lo hi la ka va ca kb vb cb xk xv xc ks vs cs) (hb : Below W.heap.size W W') : TwoAt W0 W' gc gd lv nx lo hi la ka va ca kb vb cb xk xv xc ks vs cs :=
  ⟨h.c.below hb, h.d.below hb, h.ck.keep hb, h.cv.keep hb, h.cc.keep hb, h.dk.keep hb, h.dv.keep hb, h.dc.keep hb, h.ak, h.av, h.ac, h.b.trans (hb.mono h.b.size)⟩

theorem TwoAt.nd (h : TwoAt W0 W gc gd lv nx lo hi la ka va ca kb vb cb xk xv xc ks vs cs) (hl : ks.length ≤ 9223372036854775807 ∧ vs.length ≤ 9223372036854775807 ∧ cs.length ≤ 9223372036854775807) : NdAt W kb vb cb ks.length ks.length vs.length vs.length cs.length cs.length ks vs cs := by
  have h1 := h.dk.rd (by rw [List.length_map]; omega)
  have h2 := h.dv.rd (by rw [List.length_map]; omega)
  have h3 := h.dc.rd (by rw [List.length_map]; omega)
  exact ⟨h1, h2, h3⟩
theorem TwoAt.nc (h : TwoAt W0 W gc gd lv nx lo hi la ka va ca kb vb cb (ks.map Value.string) (vs.map uv) (cs.map (Value.int .i64)) ks vs cs) (hl : ks.length ≤ 9223372036854775807 ∧ vs.length ≤ 9223372036854775807 ∧ cs.length ≤ 9223372036854775807) : NdAt W ka va ca ks.length ks.length vs.length vs.length cs.length cs.length ks vs cs := by
  have h1 := h.ck.rd (by rw [List.length_map]; omega)
  have h2 := h.cv.rd (by rw [List.length_map]; omega)
  have h3 := h.cc.rd (by rw [List.length_map]; omega)
  exact ⟨h1, h2, h3⟩

/-- From place k on the row is as it was. -/
def Still (xs ys : List Value) (k : Nat) : Prop := ∀ i, k ≤ i → xs[i]? = ys[i]?
theorem Still.set {xs ys : List Value} (h : Still xs ys k) (u : Value) : Still (xs.set k u) ys (k + 1) := fun i hi => by
  rw [List.getElem?_set_ne (by omega)]
  exact h i (by omega)
theorem Whole.still {t : TypeId} {α : Type} {f : α → Value} {l : List α} {xs : List Value} (h : Whole W t g xs) (hs : Still xs (l.map f) k) (hk : k < l.length) : W.cell? ⟨g, k, none⟩ = some (f l[k]) ∧ W.frozen? ⟨g, k, none⟩ = false := by
  refine ⟨?_, ?_⟩
  · rw [h.cell, hs k (Nat.le_refl _), List.getElem?_map, List.getElem?_eq_getElem hk]; rfl
  · unfold Whole at h
    simp [World.frozen?, h]
end
/-- Behind the two copies: where the boxes lie. -/
def TwoC (W0 wx : World) (s5 s6 : Value) (lv nx : Int) (lo hi : ByteArray) (la : Bool) (ks : List ByteArray) (vs : List Nat) (cs : List Int) : Prop :=
  ∃ (gc gd : Nat) (ka va ca kb vb cb : Option Addr), s5 = .pointer (some ⟨gc, 0, none⟩) ∧ s6 = .pointer (some ⟨gd, 0, none⟩) ∧ TwoAt W0 wx gc gd lv nx lo hi la ka va ca kb vb cb (ks.map Value.string) (vs.map uv) (cs.map (Value.int .i64)) ks vs cs

theorem twoC_of {W0 wx : World} {gc gd : Nat} {lv nx : Int} {lo hi : ByteArray} {la : Bool} {ka va ca kb vb cb : Option Addr} {ks : List ByteArray} {vs : List Nat} {cs : List Int}
    (hc : NP wx gc [(7, .slice ca cs.length cs.length), (6, .slice va vs.length vs.length), (5, .slice ka ks.length ks.length), (4, .int .i64 nx), (3, .bool la), (2, .string hi), (1, .string lo), (0, .int .i64 lv)])
    (hd : NP wx gd [(7, .slice cb cs.length cs.length), (6, .slice vb vs.length vs.length), (5, .slice kb ks.length ks.length), (4, .int .i64 nx), (3, .bool la), (2, .string hi), (1, .string lo), (0, .int .i64 lv)])
    (h1 : NewRow W0 wx 9 (.slice ka ks.length ks.length) (ks.map Value.string)) (h2 : NewRow W0 wx 50 (.slice va vs.length vs.length) (vs.map uv)) (h3 : NewRow W0 wx 3 (.slice ca cs.length cs.length) (cs.map (Value.int .i64)))
    (h4 : NewRow W0 wx 9 (.slice kb ks.length ks.length) (ks.map Value.string)) (h5 : NewRow W0 wx 50 (.slice vb vs.length vs.length) (vs.map uv)) (h6 : NewRow W0 wx 3 (.slice cb cs.length cs.length) (cs.map (Value.int .i64)))
    (a1 : Apart ka kb) (a2 : Apart va vb) (a3 : Apart ca cb) (hb : Below W0.heap.size W0 wx) : Hid (TwoC W0 wx (.pointer (some ⟨gc, 0, none⟩)) (.pointer (some ⟨gd, 0, none⟩)) lv nx lo hi la ks vs cs) :=
  Lib.hid ⟨gc, gd, ka, va, ca, kb, vb, cb, rfl, rfl, ⟨hc.full, hd.full, h1, h2, h3, h4, h5, h6, a1, a2, a3, hb⟩⟩
end Go.Proofs.Ytlcnnnljdffbmaa
