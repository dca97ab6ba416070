/- The law BoxTells, walked: it returns true for every item whose numbers are numbers. Condition: the table of powers of ten is laid. -/
import Derived.Test.YtbghemndcndhpaaDoorBoxRShowL
import Derived.Test.YtbghemndcndhpaaDoorBoxCountA
import Derived.Deep.DeepCutAuto
namespace Go.Proofs.YtbghemndcndhpaaDoor
open Go.RowKit

/-- The blocks from lo on, below hi, are as they were. -/
def Mid (lo hi : Nat) (w w' : World) : Prop := ∀ k, lo ≤ k → k < hi → w'.heap[k]? = w.heap[k]?
theorem Mid.refl (lo hi : Nat) (w : World) : Mid lo hi w w := fun _ _ _ => rfl
theorem Mid.alloc {lo hi : Nat} {w w' : World} {o : Obj} (h : Mid lo hi w w') (hs : hi ≤ w'.heap.size) : Mid lo hi w (w'.alloc o) := fun k h1 h2 => (Below.heap_alloc _ _ _ (by omega)).trans (h k h1 h2)
theorem Mid.set {lo hi : Nat} {w w' : World} {a : Addr} {v : Value} (h : Mid lo hi w w') (hs : a.block < lo ∨ hi ≤ a.block) : Mid lo hi w (w'.setCell a v) := fun k h1 h2 => (heap_set_other (by omega)).trans (h k h1 h2)
theorem Mid.below {lo hi : Nat} {w w' w2 : World} (h : Mid lo hi w w') (hs : hi ≤ w'.heap.size) (hb : Below w'.heap.size w' w2) : Mid lo hi w w2 := fun k h1 h2 => (hb.block k (by omega)).trans (h k h1 h2)

theorem box_form2 (b : Bx) : Hid (∀ (S : Nat → Prop) (w : World) (u : Value), BoxIs S w b u → u = .nilIface) ∨ Hid (∀ (S : Nat → Prop) (w : World) (u : Value), BoxIs S w b u → ∃ t z, u = .iface t z) := by
  cases b with
  | nothing => exact Or.inl (Lib.hid (fun S w u h => by rw [BoxIs] at h; exact h))
  | truth _ => exact Or.inr (Lib.hid (fun S w u h => by rw [BoxIs] at h; exact ⟨_, _, h⟩))
  | number _ => exact Or.inr (Lib.hid (fun S w u h => by rw [BoxIs] at h; exact ⟨_, _, h⟩))
  | text _ => exact Or.inr (Lib.hid (fun S w u h => by rw [BoxIs] at h; exact ⟨_, _, h⟩))
  | list l => exact Or.inr (Lib.hid (fun S w u h => by rw [BoxIs] at h; obtain ⟨_, h, _⟩ := h; exact ⟨_, _, h⟩))

theorem bcell {W w1 : World} (hb : Below W.heap.size W w1) : (∀ b o, b < W.heap.size → w1.cell? ⟨b, o, none⟩ = W.cell? ⟨b, o, none⟩) ∧ (∀ b o, b < W.heap.size → w1.frozen? ⟨b, o, none⟩ = W.frozen? ⟨b, o, none⟩) :=
  ⟨fun b o h => hb.cell (p := ⟨b, o, none⟩) h, fun b o h => hb.frozen (p := ⟨b, o, none⟩) h⟩

/-- What the two answers are, and where they lie. -/
def TellsAt (B : Nat) (w w' : World) (x : Itm) (s5 s6 : Value) : Prop :=
  ∃ (gb gw : Nat) (v : Value) (y : Itm) (k n : Int) (s : ByteArray) (ao : Option Addr) (len c : Nat), s5 = .pointer (some ⟨gb, 0, none⟩) ∧ s6 = .pointer (some ⟨gw, 0, none⟩) ∧
    w'.cell? ⟨gb, 0, none⟩ = some v ∧ (w'.cell? ⟨gw, 0, none⟩ = some (.int .i64 k) ∧ w'.cell? ⟨gw, 1, none⟩ = some (.int .u64 n) ∧ w'.cell? ⟨gw, 2, none⟩ = some (.string s) ∧ w'.cell? ⟨gw, 3, none⟩ = some (.slice ao len c)) ∧
    BoxIs (fun k => k < w'.heap.size) w' (cutB (bxI x)) v ∧ Sits (fun k => k < w'.heap.size) w' y (.agg #[.int .i64 k, .int .u64 n, .string s, .slice ao len c]) ∧
    bxI y = cutB (bxI x) ∧ vI y ∧ okI y ∧ wI y ≤ wI x ∧ Below B w w'

def Told4 (wc : World) (v : Value) (K : Int) (tb tc : Bool) (nm : Nat) (nc : Bool) (tx : ByteArray) (ec : Bool) : Prop :=
  (∀ W, Below wc.heap.size wc W → Calls Tryd.prog 10 #[.agg #[v]] W fun e w' => e = .returned (.tuple #[.bool tb, .bool tc]) ∧ Below wc.heap.size wc w' ∧ Below W.heap.size W w') ∧
  (∀ W, Below wc.heap.size wc W → Calls Tryd.prog 11 #[.agg #[v]] W fun e w' => e = .returned (.tuple #[.int .u64 nm, .bool nc]) ∧ Below wc.heap.size wc w' ∧ Below W.heap.size W w') ∧
  (∀ W, Below wc.heap.size wc W → Calls Tryd.prog 12 #[.agg #[v]] W fun e w' => e = .returned (.tuple #[.string tx, .bool ec]) ∧ Below wc.heap.size wc w' ∧ Below W.heap.size W w') ∧
  (∀ W, Below wc.heap.size wc W → Calls Tryd.prog 14 #[.agg #[v]] W fun e w' => e = .returned (.int .i64 K) ∧ Below wc.heap.size wc w' ∧ Below W.heap.size W w')

theorem told4 (S : Nat → Prop) (wc : World) (b : Bx) (v : Value) (h : BoxIs S wc b v) : Told4 wc v (kindB b : Nat) (truthOf b).1 (truthOf b).2 (numOf b).1 (numOf b).2 (textOf b).1 (textOf b).2 :=
  ⟨fun W hW => (truthOf_any S b v W (h.below hW)).mono (fun _ _ ⟨h1, h2⟩ => ⟨h1, hW.trans (h2.mono hW.size), h2⟩),
   fun W hW => (numOf_any S b v W (h.below hW)).mono (fun _ _ ⟨h1, h2⟩ => ⟨h1, hW.trans (h2.mono hW.size), h2⟩),
   fun W hW => (textOf_any S b v W (h.below hW)).mono (fun _ _ ⟨h1, h2⟩ => ⟨h1, hW.trans (h2.mono hW.size), h2⟩),
   fun W hW => (kind_any S b v W (h.below hW)).mono (fun _ _ ⟨h1, h2⟩ => ⟨h1, hW.trans (h2.mono hW.size), h2⟩)⟩

/-- Of no list nothing is told. -/
def ToldNo (wc : World) (v : Value) : Prop := ∀ W, Below wc.heap.size wc W → Calls Tryd.prog 13 #[.agg #[v]] W fun e w' => e = .returned (.tuple #[.slice none 0 0, .bool false]) ∧ Below wc.heap.size wc w' ∧ Below W.heap.size W w'
theorem toldNo (S : Nat → Prop) (wc : World) (b : Bx) (v : Value) (h : BoxIs S wc b v) (hb : ∀ l, b ≠ .list l) : ToldNo wc v :=
  fun W hW => (listOf_any S b v W (h.below hW) (fun l e => absurd e (hb l))).mono (fun e w' hg => by
    rcases hg with ⟨l, _, _, hl, _⟩ | ⟨_, h1, h2⟩
    · exact absurd hl (hb l)
    · exact ⟨h1, hW.trans (h2.mono hW.size), h2⟩)

/-- The rest: what shows, how many, how deep. -/
def Told3 (wc : World) (v : Value) (u : Value) (kind : Int) (tx : ByteArray) (cn dn : Nat) : Prop :=
  (∀ W, Below wc.heap.size wc W → Calls Tryd.prog 15 #[.agg #[v]] W fun e w' => e = .returned (.string tx) ∧ Below wc.heap.size wc w' ∧ Below W.heap.size W w') ∧
  (∀ W, Below wc.heap.size wc W → Calls Tryd.prog 16 #[u] W fun e w' => e = .returned (.string tx) ∧ Below wc.heap.size wc w' ∧ Below W.heap.size W w') ∧
  (∀ W, Below wc.heap.size wc W → Calls Tryd.prog 17 #[.agg #[v], .int .i64 kind] W fun e w' => e = .returned (.int .i64 cn) ∧ Below wc.heap.size wc w' ∧ Below W.heap.size W w') ∧
  (∀ W, Below wc.heap.size wc W → Calls Tryd.prog 18 #[u, .int .i64 kind] W fun e w' => e = .returned (.int .i64 cn) ∧ Below wc.heap.size wc w' ∧ Below W.heap.size W w') ∧
  (∀ W, Below wc.heap.size wc W → Calls Tryd.prog 19 #[.agg #[v]] W fun e w' => e = .returned (.int .i64 dn) ∧ Below wc.heap.size wc w' ∧ Below W.heap.size W w') ∧
  (∀ W, Below wc.heap.size wc W → Calls Tryd.prog 20 #[u] W fun e w' => e = .returned (.int .i64 dn) ∧ Below wc.heap.size wc w' ∧ Below W.heap.size W w') ∧
  (∀ W, Below wc.heap.size wc W → Calls Tryd.prog 7 #[] W fun e w' => e = .returned (.bool true) ∧ Below wc.heap.size wc w' ∧ Below W.heap.size W w')

theorem told3 (wc : World) (v : Value) (y : Itm) (u : Value) (kind : Int) (hb : BoxIs (fun k => k < wc.heap.size) wc (bxI y) v) (hy : Sits (fun k => k < wc.heap.size) wc y u) (hv : vI y) (hok : okI y) (hw : wI y ≤ 2000) (ht : Tab wc.heap.size wc) :
    Told3 wc v u kind (txt (showB (bxI y))) (countB kind (bxI y)) (deepB (bxI y)) := by
  have hwb := w_bx y
  refine ⟨fun W hW => ?_, fun W hW => ?_, fun W hW => ?_, fun W hW => ?_, fun W hW => ?_, fun W hW => ?_, fun W hW => ?_⟩
  · exact (shown_any _ (bxI y) v W (hb.below hW) (fun k hk => Nat.lt_of_lt_of_le hk hW.size) (ok_bx y hok) ((ht.below hW).at_ hW.size) (by omega)).mono (fun _ _ ⟨h1, h2⟩ => ⟨h1, hW.trans (h2.mono hW.size), h2⟩)
  · exact (rshow_any y _ u W (hy.below hW) hok (by omega)).mono (fun _ _ ⟨h1, h2⟩ => ⟨h1, hW.trans (h2.mono hW.size), h2⟩)
  · exact (count_any _ (bxI y) v kind W (hb.below hW) (by omega)).mono (fun _ _ ⟨h1, h2⟩ => ⟨h1, hW.trans (h2.mono hW.size), h2⟩)
  · exact (rcount_any y _ u kind W (hy.below hW) hv (by omega)).mono (fun _ _ ⟨h1, h2⟩ => ⟨h1, hW.trans (h2.mono hW.size), h2⟩)
  · exact (deep_any _ (bxI y) v W (hb.below hW)).mono (fun _ _ ⟨h1, h2⟩ => ⟨h1, hW.trans (h2.mono hW.size), h2⟩)
  · exact (refdeep_any y _ u W (hy.below hW) (by omega)).mono (fun _ _ ⟨h1, h2⟩ => ⟨h1, hW.trans (h2.mono hW.size), h2⟩)
  · exact (lives_any W ((ht.below hW).at_ hW.size)).mono (fun _ _ ⟨h1, h2⟩ => ⟨h1, hW.trans (h2.mono hW.size), h2⟩)

/-- Of a list a copy is told. -/
theorem toldYes (wc : World) (l : List Bx) (v : Value) (n : Nat) (hn : n = l.length) (h : BoxIs (fun k => k < wc.heap.size) wc (.list l) v) (hl : l.length ≤ 2000) : ∀ W, Below wc.heap.size wc W → Calls Tryd.prog 13 #[.agg #[v]] W fun e w' => ∃ g xs, e = .returned (.tuple #[.slice (some ⟨g, 0, none⟩) n n, .bool true]) ∧ Whole w' 29 g xs ∧ xs.length = n ∧ (∀ i (h : i < l.length) (h2 : i < xs.length), BoxIs (fun k => k < wc.heap.size) w' l[i] xs[i]) ∧ Below wc.heap.size wc w' :=
  fun W hW => (listOf_any _ _ v W (h.below hW) (fun l2 e => by injection e with e; subst e; omega)).mono (fun e w' hg => by
    rcases hg with ⟨l2, g, xs, e, h1, _, h3, h4, h5, h6⟩ | ⟨hno, _⟩
    · injection e with e
      subst e
      exact ⟨g, xs, by rw [hn]; exact h1, h3, by rw [hn]; exact h4, h5, hW.trans (h6.mono hW.size)⟩
    · exact absurd rfl (hno l))

set_option maxHeartbeats 40000000 in
set_option maxRecDepth 100000 in
theorem tells_any (S : Nat → Prop) (x : Itm) (v : Value) (kind : Int) (w : World) (hs : Sits S w x v) (hok : okI x) (ht : Tab w.heap.size w) :
    Calls Tryd.prog 3 #[v, .int .i64 kind] w fun e w' => e = .returned (.bool true) ∧ Below w.heap.size w w' := by
  obtain ⟨k, n, s, ao, len, c, rfl⟩ := hs.form4
  obtain ⟨W1, hW1⟩ : ∃ W1, W1 = w.alloc (.cells #[.int .i64 k, .int .u64 n, .string s, .slice ao len c] 25) := ⟨_, rfl⟩
  have hb1 : Below w.heap.size w W1 := by rw [hW1]; exact (one_alloc w _).2
  have hf1 : Four W1 w.heap.size k n s (.slice ao len c) := by rw [hW1]; exact Four.alloc w k n s (.slice ao len c)
  have HLT := Lib.hid (light_any S x _ W1 (hs.below hb1) hok)
  have HS := Lib.hid (hs.below hb1)
  have HT := Lib.hid ht
  have HOK := Lib.hid hok
  have HB1 := Lib.hid hb1
  have HF1 := Lib.hid hf1
  have HW1 := Lib.hid hW1
  clear hs hok ht hb1 hf1 hW1
  go_enter Tryd.func3, Tryd.ntmps3
  go_wp2_with fail
  rw [← HW1.out]
  refine HLT.out.mono ?_
  rintro e w2 ⟨b, rfl, hbw, hb2⟩
  cases b with
  | false =>
    have HB2 := Lib.hid (HB1.out.trans (hb2.mono HB1.out.size))
    clear hb2 hbw
    have HLV := Lib.hid (lives_any w2 ((HT.out.below HB2.out).at_ HB2.out.size))
    go_wp2_with fail
    refine HLV.out.mono ?_
    rintro e w3 ⟨rfl, hb3⟩
    have HB3 := Lib.hid (HB2.out.trans (hb3.mono HB2.out.size))
    clear hb3
    go_wp2
    go_ret
    exact ⟨rfl, HB3.out⟩
  | true =>
    have hw := hbw rfl
    have HB2 := Lib.hid (HB1.out.trans (hb2.mono HB1.out.size))
    have HS2 := Lib.hid (HS.out.below hb2)
    have HF2 := Lib.hid (HF1.out.keep hb2)
    clear hb2 hbw
    have HC : Hid (∀ W, Below w2.heap.size w2 W → (W.cell? ⟨w.heap.size, 0, none⟩ = some (.int .i64 k) ∧ W.cell? ⟨w.heap.size, 1, none⟩ = some (.int .u64 n) ∧ W.cell? ⟨w.heap.size, 2, none⟩ = some (.string s) ∧ W.cell? ⟨w.heap.size, 3, none⟩ = some (.slice ao len c)) ∧ Below w2.heap.size w2 W) := Lib.hid (fun W h => ⟨⟨(HF2.out.keep h).c0, (HF2.out.keep h).c1, (HF2.out.keep h).c2, (HF2.out.keep h).c3⟩, h⟩)
    have HBX : Hid (∀ W, ((W.cell? ⟨w.heap.size, 0, none⟩ = some (.int .i64 k) ∧ W.cell? ⟨w.heap.size, 1, none⟩ = some (.int .u64 n) ∧ W.cell? ⟨w.heap.size, 2, none⟩ = some (.string s) ∧ W.cell? ⟨w.heap.size, 3, none⟩ = some (.slice ao len c)) ∧ Below w2.heap.size w2 W) → Calls Tryd.prog 8 #[.agg #[.int .i64 k, .int .u64 n, .string s, .slice ao len c]] W fun e w' => ∃ u, e = .returned (.agg #[u]) ∧ BoxIs (fun k => W.heap.size ≤ k ∧ k < w'.heap.size) w' (cutB (bxI x)) u ∧ Below W.heap.size W w' ∧ Below w2.heap.size w2 w') := Lib.hid (fun W h => (law_any x S _ W (HS2.out.below h.2) HOK.out (by omega)).mono (fun e w' ⟨u, h1, h2, h3⟩ => ⟨u, h1, h2, h3, h.2.trans (h3.mono h.2.size)⟩))
    have HCU : Hid (∀ W, ((W.cell? ⟨w.heap.size, 0, none⟩ = some (.int .i64 k) ∧ W.cell? ⟨w.heap.size, 1, none⟩ = some (.int .u64 n) ∧ W.cell? ⟨w.heap.size, 2, none⟩ = some (.string s) ∧ W.cell? ⟨w.heap.size, 3, none⟩ = some (.slice ao len c)) ∧ Below w2.heap.size w2 W) → Calls Tryd.prog 9 #[.agg #[.int .i64 k, .int .u64 n, .string s, .slice ao len c]] W fun e w' => ∃ y k n s ao len c, e = .returned (.agg #[.int .i64 k, .int .u64 n, .string s, .slice ao len c]) ∧ Sits (fun k => k < w2.heap.size ∨ (W.heap.size ≤ k ∧ k < w'.heap.size)) w' y (.agg #[.int .i64 k, .int .u64 n, .string s, .slice ao len c]) ∧ (bxI y = cutB (bxI x) ∧ vI y ∧ okI y ∧ wI y ≤ wI x) ∧ Below W.heap.size W w' ∧ Below w2.heap.size w2 w') := Lib.hid (fun W h => (cut_any x (fun k => S k ∧ k < w2.heap.size) _ W ((HS2.out.mono (fun k h1 h2 => ⟨h1, h2⟩)).below h.2) HOK.out (by omega)).mono (fun e w' ⟨u, y, h1, h2, h3, h4, h5, h6, h7⟩ => by
      obtain ⟨k, n, s, ao, len, c, rfl⟩ := h2.form4
      exact ⟨y, k, n, s, ao, len, c, h1, h2.mono (fun k hk hlt => by
        rcases hk with hk | hk
        · exact Or.inl hk.2
        · exact Or.inr ⟨hk, hlt⟩), ⟨h3, h4, h5, h6⟩, h7, h.2.trans (h7.mono h.2.size)⟩))
    go_upto_region 3 with fail
    go_cut [5, 6] (fun s5 s6 wx => TellsAt w2.heap.size w2 wx x s5 s6)
    case first =>
      rcases box_form2 (cutB (bxI x)) with HFM | HFM
      · as_aux_lemma =>
          have hS0 := HC.out w2.drew (Below.refl _ _).drew
          go_region_held_law (fun W => (W.cell? ⟨w.heap.size, 0, none⟩ = some (.int .i64 k) ∧ W.cell? ⟨w.heap.size, 1, none⟩ = some (.int .u64 n) ∧ W.cell? ⟨w.heap.size, 2, none⟩ = some (.string s) ∧ W.cell? ⟨w.heap.size, 3, none⟩ = some (.slice ao len c)) ∧ Below w2.heap.size w2 W)
            (first | (with_reducible exact hS0) | (with_reducible exact hS3) | (with_reducible exact hS4) | ((with_reducible refine HC.out _ ?_); repeat' (first | (with_reducible assumption) | (with_reducible exact Below.refl _ _) | (with_reducible refine Below.drew ?_) | (with_reducible refine Below.alloc ?_ ?_ _) | (with_reducible refine Below.setCell ?_ ?_ _) | omega | (simp <;> omega))))
            (first
              | (go_at_call 8; (with_reducible refine (HBX.out _ (by assumption)).mono ?_); rintro e w3 ⟨u, rfl, hu, hb3, hB3⟩; (obtain rfl := HFM.out _ _ _ hu); have hS3 := HC.out _ hB3; obtain ⟨hc3, hf3⟩ := bcell hb3; have hz3 := hb3.size; have hzz3 := hB3.size; (try simp at hz3); (first | (have hx3 : w2.heap.size < w3.heap.size := by omega) | skip); (first | (have hy3 : w2.heap.size + 1 < w3.heap.size := by omega) | (have hy3 : w2.heap.size < w3.heap.size := by omega) | skip))
              | (go_at_call 9; (with_reducible refine (HCU.out _ (by assumption)).mono ?_); rintro e w4 ⟨y, k2, n2, s2, ao2, len2, c2, rfl, hy, hy2, hb4, hB4⟩; have hS4 := HC.out _ hB4; obtain ⟨hc4, hf4⟩ := bcell hb4; have hz4 := hb4.size; have hzz4 := hB4.size; (try simp at hz4); (first | (have hx4 : w2.heap.size + 1 < w4.heap.size := by omega) | (have hx4 : w2.heap.size < w4.heap.size := by omega) | skip); (first | (have hx5 : w2.heap.size < w4.heap.size := by omega) | skip); (first | (have hx6 : w3.heap.size < w4.heap.size := by omega) | skip); (first | (have hy4 : w3.heap.size + 1 < w4.heap.size := by omega) | (have hy4 : w3.heap.size < w4.heap.size := by omega) | skip)))
          all_goals
            go_wp2_with fail
            go_meet
            refine ⟨_, _, .nilIface, y, k2, n2, s2, ao2, len2, c2, rfl, rfl, ?_, ⟨?_, ?_, ?_, ?_⟩, ?_, ?_, hy2.1, hy2.2.1, hy2.2.2.1, hy2.2.2.2, ?_⟩
            · first | (go_simp; done) | (go_simp; refine World.cell?_setCell_same' _ _ _ ?_; go_simp)
            · first | (go_simp; done) | (go_simp; refine World.cell?_setCell_same' _ _ _ ?_; go_simp)
            · first | (go_simp; done) | (go_simp; refine World.cell?_setCell_same' _ _ _ ?_; go_simp)
            · first | (go_simp; done) | (go_simp; refine World.cell?_setCell_same' _ _ _ ?_; go_simp)
            · first | (go_simp; done) | (go_simp; refine World.cell?_setCell_same' _ _ _ ?_; go_simp)
            · refine BoxIs.keep (fun k hk => ⟨Nat.lt_of_lt_of_le hk.2 ?_, fun _ => (?_ : Mid _ _ _ _) k hk.1 hk.2⟩) _ _ hu
              · simp <;> omega
              · repeat' (first | (with_reducible exact Mid.refl _ _ _) | (with_reducible refine Mid.set ?_ ?_) | (with_reducible refine Mid.alloc ?_ ?_) | (with_reducible refine Mid.below ?_ ?_ hb4) | omega | (simp <;> omega))
            · refine Sits.keep (fun k hk hlt => ⟨Nat.lt_of_lt_of_le hlt ?_, ?_⟩) _ _ hy
              · simp <;> omega
              · rcases hk with hk | hk
                · refine (?_ : Mid 0 w2.heap.size w4 _) k (Nat.zero_le _) hk
                  repeat' (first | (with_reducible exact Mid.refl _ _ _) | (with_reducible refine Mid.set ?_ ?_) | (with_reducible refine Mid.alloc ?_ ?_) | omega | (simp <;> omega))
                · refine (?_ : Mid _ _ w4 _) k hk.1 hk.2
                  repeat' (first | (with_reducible exact Mid.refl _ _ _) | (with_reducible refine Mid.set ?_ ?_) | (with_reducible refine Mid.alloc ?_ ?_) | omega | (simp <;> omega))
            · repeat' (first | (with_reducible assumption) | (with_reducible exact Below.refl _ _) | (with_reducible refine Below.drew ?_) | (with_reducible refine Below.alloc ?_ ?_ _) | (with_reducible refine Below.setCell ?_ ?_ _) | omega | (simp <;> omega))
      · as_aux_lemma =>
          have hS0 := HC.out w2.drew (Below.refl _ _).drew
          go_region_held_law (fun W => (W.cell? ⟨w.heap.size, 0, none⟩ = some (.int .i64 k) ∧ W.cell? ⟨w.heap.size, 1, none⟩ = some (.int .u64 n) ∧ W.cell? ⟨w.heap.size, 2, none⟩ = some (.string s) ∧ W.cell? ⟨w.heap.size, 3, none⟩ = some (.slice ao len c)) ∧ Below w2.heap.size w2 W)
            (first | (with_reducible exact hS0) | (with_reducible exact hS3) | (with_reducible exact hS4) | ((with_reducible refine HC.out _ ?_); repeat' (first | (with_reducible assumption) | (with_reducible exact Below.refl _ _) | (with_reducible refine Below.drew ?_) | (with_reducible refine Below.alloc ?_ ?_ _) | (with_reducible refine Below.setCell ?_ ?_ _) | omega | (simp <;> omega))))
            (first
              | (go_at_call 8; (with_reducible refine (HBX.out _ (by assumption)).mono ?_); rintro e w3 ⟨u, rfl, hu, hb3, hB3⟩; (obtain ⟨ut, uz, rfl⟩ := HFM.out _ _ _ hu); have hS3 := HC.out _ hB3; obtain ⟨hc3, hf3⟩ := bcell hb3; have hz3 := hb3.size; have hzz3 := hB3.size; (try simp at hz3); (first | (have hx3 : w2.heap.size < w3.heap.size := by omega) | skip); (first | (have hy3 : w2.heap.size + 1 < w3.heap.size := by omega) | (have hy3 : w2.heap.size < w3.heap.size := by omega) | skip))
              | (go_at_call 9; (with_reducible refine (HCU.out _ (by assumption)).mono ?_); rintro e w4 ⟨y, k2, n2, s2, ao2, len2, c2, rfl, hy, hy2, hb4, hB4⟩; have hS4 := HC.out _ hB4; obtain ⟨hc4, hf4⟩ := bcell hb4; have hz4 := hb4.size; have hzz4 := hB4.size; (try simp at hz4); (first | (have hx4 : w2.heap.size + 1 < w4.heap.size := by omega) | (have hx4 : w2.heap.size < w4.heap.size := by omega) | skip); (first | (have hx5 : w2.heap.size < w4.heap.size := by omega) | skip); (first | (have hx6 : w3.heap.size < w4.heap.size := by omega) | skip); (first | (have hy4 : w3.heap.size + 1 < w4.heap.size := by omega) | (have hy4 : w3.heap.size < w4.heap.size := by omega) | skip)))
          all_goals
            go_wp2_with fail
            go_meet
            refine ⟨_, _, (.iface ut uz), y, k2, n2, s2, ao2, len2, c2, rfl, rfl, ?_, ⟨?_, ?_, ?_, ?_⟩, ?_, ?_, hy2.1, hy2.2.1, hy2.2.2.1, hy2.2.2.2, ?_⟩
            · first | (go_simp; done) | (go_simp; refine World.cell?_setCell_same' _ _ _ ?_; go_simp)
            · first | (go_simp; done) | (go_simp; refine World.cell?_setCell_same' _ _ _ ?_; go_simp)
            · first | (go_simp; done) | (go_simp; refine World.cell?_setCell_same' _ _ _ ?_; go_simp)
            · first | (go_simp; done) | (go_simp; refine World.cell?_setCell_same' _ _ _ ?_; go_simp)
            · first | (go_simp; done) | (go_simp; refine World.cell?_setCell_same' _ _ _ ?_; go_simp)
            · refine BoxIs.keep (fun k hk => ⟨Nat.lt_of_lt_of_le hk.2 ?_, fun _ => (?_ : Mid _ _ _ _) k hk.1 hk.2⟩) _ _ hu
              · simp <;> omega
              · repeat' (first | (with_reducible exact Mid.refl _ _ _) | (with_reducible refine Mid.set ?_ ?_) | (with_reducible refine Mid.alloc ?_ ?_) | (with_reducible refine Mid.below ?_ ?_ hb4) | omega | (simp <;> omega))
            · refine Sits.keep (fun k hk hlt => ⟨Nat.lt_of_lt_of_le hlt ?_, ?_⟩) _ _ hy
              · simp <;> omega
              · rcases hk with hk | hk
                · refine (?_ : Mid 0 w2.heap.size w4 _) k (Nat.zero_le _) hk
                  repeat' (first | (with_reducible exact Mid.refl _ _ _) | (with_reducible refine Mid.set ?_ ?_) | (with_reducible refine Mid.alloc ?_ ?_) | omega | (simp <;> omega))
                · refine (?_ : Mid _ _ w4 _) k hk.1 hk.2
                  repeat' (first | (with_reducible exact Mid.refl _ _ _) | (with_reducible refine Mid.set ?_ ?_) | (with_reducible refine Mid.alloc ?_ ?_) | omega | (simp <;> omega))
            · repeat' (first | (with_reducible assumption) | (with_reducible exact Below.refl _ _) | (with_reducible refine Below.drew ?_) | (with_reducible refine Below.alloc ?_ ?_ _) | (with_reducible refine Below.setCell ?_ ?_ _) | omega | (simp <;> omega))
    case rest =>
      obtain ⟨gb, gw, v, y, K2, n2, s2, ao2, len2, c2, rfl, rfl, c5, ⟨g0, g1, g2, g3⟩, hbx, hsy, hyb, hyv, hyo, hyw, hB⟩ := hcut
      rw [← hyb] at hbx
      have hBW := HB2.out.trans (hB.mono HB2.out.size)
      have HBW := Lib.hid hBW
      have H3 := Lib.hid (told3 wc v y _ kind hbx hsy hyv hyo (by omega) ((HT.out.below hBW).at_ hBW.size))
      generalize txt (showB (bxI y)) = TX at H3
      generalize countB kind (bxI y) = CN at H3
      generalize deepB (bxI y) = DN at H3
      have hsy2 := hsy
      obtain ⟨ky, ny, sy, ly⟩ := y
      rw [Sits] at hsy2
      obtain ⟨ao3, c3, hv, hc3, hsl⟩ := hsy2
      simp only [Value.agg.injEq, Array.mk.injEq, List.cons.injEq, Value.int.injEq, Value.string.injEq, Value.slice.injEq, and_true, true_and] at hv
      obtain ⟨rfl, rfl, rfl, rfl, rfl, rfl⟩ := hv
      obtain ⟨len2, hlen⟩ : ∃ len2, len2 = ly.length := ⟨_, rfl⟩
      rw [← hlen] at g3 hc3 H3
      obtain ⟨tg1, tg2, tg3, tg4, tg5, tg6, tg7⟩ := H3.out
      have HG1 := Lib.hid tg1
      have HG2 := Lib.hid tg2
      have HG3 := Lib.hid tg3
      have HG4 := Lib.hid tg4
      have HG5 := Lib.hid tg5
      have HG6 := Lib.hid tg6
      have HG7 := Lib.hid tg7
      clear tg1 tg2 tg3 tg4 tg5 tg6 tg7 H3
      have HCC : Hid (∀ W, Below wc.heap.size wc W → (W.cell? ⟨gb, 0, none⟩ = some v ∧ W.cell? ⟨gw, 0, none⟩ = some (.int .i64 K2) ∧ W.cell? ⟨gw, 1, none⟩ = some (.int .u64 n2) ∧ W.cell? ⟨gw, 2, none⟩ = some (.string s2) ∧ W.cell? ⟨gw, 3, none⟩ = some (.slice ao2 len2 c2)) ∧ Below wc.heap.size wc W) := Lib.hid (fun W h => ⟨⟨(h.cell (p := ⟨gb, 0, none⟩) (World.block_lt_of_cell? _ _ c5)).trans c5, (h.cell (p := ⟨gw, 0, none⟩) (World.block_lt_of_cell? _ _ g0)).trans g0, (h.cell (p := ⟨gw, 1, none⟩) (World.block_lt_of_cell? _ _ g1)).trans g1, (h.cell (p := ⟨gw, 2, none⟩) (World.block_lt_of_cell? _ _ g2)).trans g2, (h.cell (p := ⟨gw, 3, none⟩) (World.block_lt_of_cell? _ _ g3)).trans g3⟩, h⟩)
      have HCX : Hid (∀ W, ((W.cell? ⟨gb, 0, none⟩ = some v ∧ W.cell? ⟨gw, 0, none⟩ = some (.int .i64 K2) ∧ W.cell? ⟨gw, 1, none⟩ = some (.int .u64 n2) ∧ W.cell? ⟨gw, 2, none⟩ = some (.string s2) ∧ W.cell? ⟨gw, 3, none⟩ = some (.slice ao2 len2 c2)) ∧ Below wc.heap.size wc W) → Below wc.heap.size wc W) := Lib.hid (fun _ h => h.2)
      rw [vI] at hyv
      rw [okI] at hyo
      obtain ⟨m2, rfl⟩ : ∃ m : Nat, n2 = m := ⟨n2.toNat, by omega⟩
      have hm2 : (m2 : Int) < 18446744073709551616 := hyo.1.2
      have hb0 : Below wc.heap.size wc wc := Below.refl _ _
      have HSL := Lib.hid hsl
      have HOK := Lib.hid hyo
      have HVI := Lib.hid hyv
      have HBX := Lib.hid hbx
      have HYW := Lib.hid hyw
      have HLEN := Lib.hid hlen
      have hK := hyv.1
      have HWX := Lib.hid hw
      clear hbx hsy hyb hyo hyw hB hBW hsl hlen hyv HC HCU hw
      by_cases hk4 : K2 = 4
      · as_aux_lemma =>
          subst hk4
          have hLB : bxI (.mk 4 m2 s2 ly) = .list (bxIs ly) := by rw [bxI]; simp
          have hbl := HBX.out
          rw [hLB] at hbl
          have hlw : ly.length ≤ 2000 := by
            have h1 := wIs_len ly
            have h2 := HYW.out
            have h3 := HWX.out
            rw [wI] at h2
            omega
          have h4 := told4 _ _ _ _ hbl
          have HA1 : Hid (∀ W, Below wc.heap.size wc W → Calls Tryd.prog 10 #[.agg #[v]] W fun e w' => e = .returned (.tuple #[.bool false, .bool false]) ∧ Below wc.heap.size wc w' ∧ Below W.heap.size W w') := Lib.hid h4.1
          have HA2 : Hid (∀ W, Below wc.heap.size wc W → Calls Tryd.prog 11 #[.agg #[v]] W fun e w' => e = .returned (.tuple #[.int .u64 0, .bool false]) ∧ Below wc.heap.size wc w' ∧ Below W.heap.size W w') := Lib.hid h4.2.1
          have HA3 : Hid (∀ W, Below wc.heap.size wc W → Calls Tryd.prog 12 #[.agg #[v]] W fun e w' => e = .returned (.tuple #[.string ⟨#[]⟩, .bool false]) ∧ Below wc.heap.size wc w' ∧ Below W.heap.size W w') := Lib.hid h4.2.2.1
          have HA4 : Hid (∀ W, Below wc.heap.size wc W → Calls Tryd.prog 14 #[.agg #[v]] W fun e w' => e = .returned (.int .i64 4) ∧ Below wc.heap.size wc w' ∧ Below W.heap.size W w') := Lib.hid h4.2.2.2
          have hbn := bxIs_len ly
          have HA5 := Lib.hid (toldYes wc (bxIs ly) v len2 (by rw [hbn]; exact HLEN.out) hbl (by omega))
          have hle : len2 ≤ 2000 := by rw [HLEN.out]; exact hlw
          clear h4 hbl hlw hbn hLB hK
          go_wp2_with (first
            | (go_at_call 10; (with_reducible refine (HA1.out _ (by assumption)).mono ?_); rintro e wa ⟨rfl, hD1, _⟩; obtain ⟨⟨p5, p0, p1, p2, p3⟩, _⟩ := HCC.out _ hD1)
            | (go_at_call 11; (with_reducible refine (HA2.out _ (by assumption)).mono ?_); rintro e wb ⟨rfl, hD2, _⟩; obtain ⟨⟨p5, p0, p1, p2, p3⟩, _⟩ := HCC.out _ hD2)
            | (go_at_call 12; (with_reducible refine (HA3.out _ (by assumption)).mono ?_); rintro e wd ⟨rfl, hD3, _⟩; obtain ⟨⟨p5, p0, p1, p2, p3⟩, _⟩ := HCC.out _ hD3)
            | (go_at_call 13; (with_reducible refine (HA5.out _ (by assumption)).mono ?_); rintro e we ⟨gl, xs, rfl, hwh, hxl, hxs, hD4⟩; obtain ⟨⟨p5, p0, p1, p2, p3⟩, _⟩ := HCC.out _ hD4; have HWH := Lib.hid hwh; have HXL := Lib.hid hxl; have HXS := Lib.hid hxs; clear hwh hxl hxs)
            | (go_at_call 14; (with_reducible refine (HA4.out _ (by assumption)).mono ?_); rintro e wf ⟨rfl, hD5, hK5⟩; obtain ⟨⟨p5, p0, p1, p2, p3⟩, _⟩ := HCC.out _ hD5))
          have HW9 := Lib.hid (HWH.out.keep hK5)
          obtain ⟨W9, hW9⟩ : ∃ W9, W9 = wf := ⟨_, rfl⟩
          have HD9 : Hid (Below wc.heap.size wc W9 ∧ Whole W9 29 gl xs) := by rw [hW9]; exact Lib.hid ⟨hD5, HW9.out⟩
          have HWF : Hid (W9 = wf) := Lib.hid hW9
          have HXB : Hid (∀ i (h : i < ly.length) (h2 : i < xs.length) W, Below wc.heap.size wc W → BoxIs (fun k => k < wc.heap.size) W (bxI ly[i]) xs[i]) := Lib.hid (fun i h h2 W hW => by
            have hb := HXS.out i (by rw [bxIs_len]; exact h) h2
            have e : (bxIs ly)[i]'(by rw [bxIs_len]; exact h) = bxI ly[i] := by simp [bxIs_map]
            rw [e] at hb
            exact BoxIs.keep (fun k hk => ⟨hk, fun _ => (hW.block k hk).trans (hD4.block k hk).symm⟩) _ _ hb)
          clear hW9 HW9 HWH HXS
          go_loopw [141] (fun si wr => ∃ i : Nat, si = .int .i64 i ∧ i ≤ len2 ∧ Hid (Below wc.heap.size wc wr ∧ Whole wr 29 gl xs)) (fun si _ => len2 - (intOf si).toNat)
          case atStart => exact ⟨0, rfl, Nat.zero_le _, by rw [← HWF.out]; exact HD9⟩
          case round =>
            obtain ⟨i, rfl, hi, hR⟩ := hrel
            clear hD1 hD2 hD3 hD4 hD5 hK5 hb0
            by_cases hlt : i < len2
            · have hil : i < ly.length := by rw [← HLEN.out]; exact hlt
              have hix : i < xs.length := by rw [HXL.out]; exact hlt
              have hR1 := hR.out.1
              obtain ⟨b, o, k', n', s', ao', len', c', hao, q0, q1, q2, q3, hx⟩ := item_at (w := wc) (l := ly) (S := fun k => k < wc.heap.size) HSL.out hR1 i hil
              obtain rfl := hao
              have hcx := hR.out.2.cell i
              rw [List.getElem?_eq_getElem hix] at hcx
              have hbx := HXB.out i hil hix wr hR1
              have hform := hbx.form
              have hwi : wI ly[i] ≤ 2000 := by
                have h1 := wIs_mem (List.getElem_mem hil)
                have h2 := HYW.out
                have h3 := HWX.out
                rw [wI] at h2
                omega
              have hoki := (okIs_iff ly).1 HOK.out.2.2 _ (List.getElem_mem hil)
              have hwb := w_bx ly[i]
              have HSB : Hid (∀ W, Below wc.heap.size wc W → Calls Tryd.prog 15 #[.agg #[xs[i]]] W fun e w' => e = .returned (.string (txt (showB (bxI ly[i])))) ∧ Below W.heap.size W w') := Lib.hid (fun W hW => shown_any _ (bxI ly[i]) _ W (HXB.out i hil hix W hW) (fun k hk => Nat.lt_of_lt_of_le hk hW.size) (ok_bx _ hoki) ((HT.out.below (HBW.out.trans (hW.mono HBW.out.size))).at_ (HBW.out.trans (hW.mono HBW.out.size)).size) (by omega))
              have HRS : Hid (∀ W, Below wr.heap.size wr W → Calls Tryd.prog 16 #[.agg #[.int .i64 k', .int .u64 n', .string s', .slice ao' len' c']] W fun e w' => e = .returned (.string (txt (showB (bxI ly[i])))) ∧ Below W.heap.size W w') := Lib.hid (fun W hW => rshow_any ly[i] _ _ W (hx.below hW) hoki (by omega))
              obtain ⟨xi, hxi⟩ : ∃ xi, xi = xs[i] := ⟨_, rfl⟩
              rw [← hxi] at HSB hcx hform
              generalize txt (showB (bxI ly[i])) = TXI at HSB HRS
              obtain ⟨W5, hW5⟩ : ∃ W5, W5 = wr.alloc (.cells #[xi] 29) := ⟨_, rfl⟩
              have hb5 : Below wr.heap.size wr W5 := by rw [hW5]; exact alloc_below _ _
              have ho5 : W5.cell? ⟨wr.heap.size, 0, none⟩ = some xi := by rw [hW5]; exact (One.alloc wr xi 29).c
              have k3 := (HCC.out _ hR1).1.2.2.2.2
              have HC5 : Hid (∀ W, Below W5.heap.size W5 W → (W.cell? ⟨wr.heap.size, 0, none⟩ = some xi ∧ W.cell? ⟨gw, 3, none⟩ = some (.slice (some ⟨b, o, none⟩) len2 c2) ∧ W.cell? ⟨b, o + i * 4, none⟩ = some (.int .i64 k') ∧ W.cell? ⟨b, o + i * 4 + 1, none⟩ = some (.int .u64 n') ∧ W.cell? ⟨b, o + i * 4 + 2, none⟩ = some (.string s') ∧ W.cell? ⟨b, o + i * 4 + 3, none⟩ = some (.slice ao' len' c')) ∧ Below W5.heap.size W5 W) := Lib.hid (fun W hW => by
                have hw := hb5.trans (hW.mono hb5.size)
                exact ⟨⟨(hW.cell (p := ⟨wr.heap.size, 0, none⟩) (World.block_lt_of_cell? _ _ ho5)).trans ho5, (hw.cell (p := ⟨gw, 3, none⟩) (World.block_lt_of_cell? _ _ k3)).trans k3, (hw.cell (p := ⟨b, o + i * 4, none⟩) (World.block_lt_of_cell? _ _ q0)).trans q0, (hw.cell (p := ⟨b, o + i * 4 + 1, none⟩) (World.block_lt_of_cell? _ _ q1)).trans q1, (hw.cell (p := ⟨b, o + i * 4 + 2, none⟩) (World.block_lt_of_cell? _ _ q2)).trans q2, (hw.cell (p := ⟨b, o + i * 4 + 3, none⟩) (World.block_lt_of_cell? _ _ q3)).trans q3⟩, hW⟩)
              have HBB5 := Lib.hid hb5
              have HSB5 : Hid (∀ W, ((W.cell? ⟨wr.heap.size, 0, none⟩ = some xi ∧ W.cell? ⟨gw, 3, none⟩ = some (.slice (some ⟨b, o, none⟩) len2 c2) ∧ W.cell? ⟨b, o + i * 4, none⟩ = some (.int .i64 k') ∧ W.cell? ⟨b, o + i * 4 + 1, none⟩ = some (.int .u64 n') ∧ W.cell? ⟨b, o + i * 4 + 2, none⟩ = some (.string s') ∧ W.cell? ⟨b, o + i * 4 + 3, none⟩ = some (.slice ao' len' c')) ∧ Below W5.heap.size W5 W) → Calls Tryd.prog 15 #[.agg #[xi]] W fun e w' => e = .returned (.string TXI) ∧ Below W5.heap.size W5 w') := Lib.hid (fun W hW => (HSB.out W (hR1.trans ((HBB5.out.trans (hW.2.mono HBB5.out.size)).mono hR1.size))).mono (fun _ _ ⟨h1, h2⟩ => ⟨h1, hW.2.trans (h2.mono hW.2.size)⟩))
              have HRS5 : Hid (∀ W, ((W.cell? ⟨wr.heap.size, 0, none⟩ = some xi ∧ W.cell? ⟨gw, 3, none⟩ = some (.slice (some ⟨b, o, none⟩) len2 c2) ∧ W.cell? ⟨b, o + i * 4, none⟩ = some (.int .i64 k') ∧ W.cell? ⟨b, o + i * 4 + 1, none⟩ = some (.int .u64 n') ∧ W.cell? ⟨b, o + i * 4 + 2, none⟩ = some (.string s') ∧ W.cell? ⟨b, o + i * 4 + 3, none⟩ = some (.slice ao' len' c')) ∧ Below W5.heap.size W5 W) → Calls Tryd.prog 16 #[.agg #[.int .i64 k', .int .u64 n', .string s', .slice ao' len' c']] W fun e w' => e = .returned (.string TXI) ∧ Below W5.heap.size W5 w') := Lib.hid (fun W hW => (HRS.out W (HBB5.out.trans (hW.2.mono HBB5.out.size))).mono (fun _ _ ⟨h1, h2⟩ => ⟨h1, hW.2.trans (h2.mono hW.2.size)⟩))
              have HE5 : Hid (W5 = wr.alloc (.cells #[xi] 29)) := Lib.hid hW5
              have HHH : Hid (∀ W, Below W5.heap.size W5 W → Below wc.heap.size wc W ∧ Whole W 29 gl xs) := Lib.hid (fun W hW => ⟨hR.out.1.trans ((HBB5.out.trans (hW.mono HBB5.out.size)).mono hR.out.1.size), hR.out.2.keep (HBB5.out.trans (hW.mono HBB5.out.size))⟩)
              clear hx q0 q1 q2 q3 hbx hxi hwi hoki hwb hb5 ho5 hW5 HSB HRS hR1 hil
              rcases hform with rfl | ⟨ut, uz, rfl⟩
              · go_wp2
                rw [← HE5.out]
                have hS0 := HC5.out W5.drew (Below.refl _ _).drew
                go_region_held_law (fun W => ((W.cell? ⟨wr.heap.size, 0, none⟩ = some .nilIface ∧ W.cell? ⟨gw, 3, none⟩ = some (.slice (some ⟨b, o, none⟩) len2 c2) ∧ W.cell? ⟨b, o + i * 4, none⟩ = some (.int .i64 k') ∧ W.cell? ⟨b, o + i * 4 + 1, none⟩ = some (.int .u64 n') ∧ W.cell? ⟨b, o + i * 4 + 2, none⟩ = some (.string s') ∧ W.cell? ⟨b, o + i * 4 + 3, none⟩ = some (.slice ao' len' c')) ∧ Below W5.heap.size W5 W))
                  (first | (with_reducible exact hS0) | exact HC5.out _ hA1 | exact HC5.out _ hA2 | assumption)
                  (first
                    | (go_at_call 15; (with_reducible refine (HSB5.out _ (by assumption)).mono ?_); rintro e wa ⟨rfl, hA1⟩)
                    | (go_at_call 16; (with_reducible refine (HRS5.out _ (by assumption)).mono ?_); rintro e wb ⟨rfl, hA2⟩))
                have H := HHH.out _ hA2
                have HH := Lib.hid H
                clear H hA1 hA2 hS0
                go_wp2
                go_roundw
                case rel => exact ⟨i + 1, by go_num, by omega, HH⟩
                case measure => simp [intOf]; omega
              · go_wp2
                rw [← HE5.out]
                have hS0 := HC5.out W5.drew (Below.refl _ _).drew
                go_region_held_law (fun W => ((W.cell? ⟨wr.heap.size, 0, none⟩ = some (.iface ut uz) ∧ W.cell? ⟨gw, 3, none⟩ = some (.slice (some ⟨b, o, none⟩) len2 c2) ∧ W.cell? ⟨b, o + i * 4, none⟩ = some (.int .i64 k') ∧ W.cell? ⟨b, o + i * 4 + 1, none⟩ = some (.int .u64 n') ∧ W.cell? ⟨b, o + i * 4 + 2, none⟩ = some (.string s') ∧ W.cell? ⟨b, o + i * 4 + 3, none⟩ = some (.slice ao' len' c')) ∧ Below W5.heap.size W5 W))
                  (first | (with_reducible exact hS0) | exact HC5.out _ hA1 | exact HC5.out _ hA2 | assumption)
                  (first
                    | (go_at_call 15; (with_reducible refine (HSB5.out _ (by assumption)).mono ?_); rintro e wa ⟨rfl, hA1⟩)
                    | (go_at_call 16; (with_reducible refine (HRS5.out _ (by assumption)).mono ?_); rintro e wb ⟨rfl, hA2⟩))
                have H := HHH.out _ hA2
                have HH := Lib.hid H
                clear H hA1 hA2 hS0
                go_wp2
                go_roundw
                case rel => exact ⟨i + 1, by go_num, by omega, HH⟩
                case measure => simp [intOf]; omega
            · obtain rfl : len2 = i := by omega
              have hE0 : Below wc.heap.size wc wr.drew := hR.out.1.drew
              go_wp2
              go_region_held_law (fun W => (W.cell? ⟨gb, 0, none⟩ = some v ∧ W.cell? ⟨gw, 0, none⟩ = some (.int .i64 4) ∧ W.cell? ⟨gw, 1, none⟩ = some (.int .u64 m2) ∧ W.cell? ⟨gw, 2, none⟩ = some (.string s2) ∧ W.cell? ⟨gw, 3, none⟩ = some (.slice ao2 len2 c2)) ∧ Below wc.heap.size wc W)
                  (first | exact HCC.out _ hE0 | exact HCC.out _ hE1 | exact HCC.out _ hE2 | exact HCC.out _ hE3 | exact HCC.out _ hE4 | exact HCC.out _ hE5 | exact HCC.out _ hE6 | exact HCC.out _ hE7 | assumption)
                  (first
                    | (go_at_call 15; (with_reducible refine (HG1.out _ (HCX.out _ (by assumption))).mono ?_); rintro e wa ⟨rfl, hE1, _⟩)
                    | (go_at_call 16; (with_reducible refine (HG2.out _ (HCX.out _ (by assumption))).mono ?_); rintro e wb ⟨rfl, hE2, _⟩)
                    | (go_at_call 17; (with_reducible refine (HG3.out _ (HCX.out _ (by assumption))).mono ?_); rintro e wd ⟨rfl, hE3, _⟩)
                    | (go_at_call 18; (with_reducible refine (HG4.out _ (HCX.out _ (by assumption))).mono ?_); rintro e we ⟨rfl, hE4, _⟩)
                    | (go_at_call 19; (with_reducible refine (HG5.out _ (HCX.out _ (by assumption))).mono ?_); rintro e wf ⟨rfl, hE5, _⟩)
                    | (go_at_call 20; (with_reducible refine (HG6.out _ (HCX.out _ (by assumption))).mono ?_); rintro e wg ⟨rfl, hE6, _⟩)
                    | (go_at_call 7; (with_reducible refine (HG7.out _ (HCX.out _ (by assumption))).mono ?_); rintro e wh ⟨rfl, hE7, _⟩))
              go_wp2
              go_ret
              exact ⟨rfl, HBW.out.trans (hE7.mono HBW.out.size)⟩
      · have HX : Hid ((K2 = 0 ∧ bxI (.mk K2 m2 s2 ly) = .nothing) ∨ (K2 = 1 ∧ bxI (.mk K2 m2 s2 ly) = .truth (decide ((m2 : Int) % 2 = 1))) ∨ (K2 = 2 ∧ bxI (.mk K2 m2 s2 ly) = .number m2) ∨ (K2 = 3 ∧ bxI (.mk K2 m2 s2 ly) = .text s2)) := Lib.hid (by
          have hk : K2 = 0 ∨ K2 = 1 ∨ K2 = 2 ∨ K2 = 3 := by omega
          rcases hk with rfl | rfl | rfl | rfl
          · exact Or.inl ⟨rfl, by rw [bxI]; simp⟩
          · exact Or.inr (Or.inl ⟨rfl, by rw [bxI]; simp⟩)
          · exact Or.inr (Or.inr (Or.inl ⟨rfl, by rw [bxI]; simp⟩))
          · exact Or.inr (Or.inr (Or.inr ⟨rfl, by rw [bxI]; simp⟩)))
        have HNO := Lib.hid (toldNo _ _ _ _ HBX.out (by
          intro l hl
          rcases HX.out with ⟨_, h⟩ | ⟨_, h⟩ | ⟨_, h⟩ | ⟨_, h⟩ <;> (rw [h] at hl; cases hl)))
        have HNOO : Hid (∀ W, Below wc.heap.size wc W → Calls Tryd.prog 13 #[.agg #[v]] W fun e w' => e = .returned (.tuple #[.slice none 0 0, .bool false]) ∧ Below wc.heap.size wc w' ∧ Below W.heap.size W w') := HNO
        clear HNO
        have hT : ∃ tb tc nm nc tx ec, Hid (Told4 wc v K2 tb tc nm nc tx ec) ∧ ((K2 = 0 ∧ tb = false ∧ tc = false ∧ nm = 0 ∧ nc = false ∧ tx = ⟨#[]⟩ ∧ ec = false) ∨ (K2 = 1 ∧ tb = decide ((m2 : Int) % 2 = 1) ∧ tc = true ∧ nm = 0 ∧ nc = false ∧ tx = ⟨#[]⟩ ∧ ec = false) ∨ (K2 = 2 ∧ tb = false ∧ tc = false ∧ m2 = nm ∧ nc = true ∧ tx = ⟨#[]⟩ ∧ ec = false) ∨ (K2 = 3 ∧ tb = false ∧ tc = false ∧ nm = 0 ∧ nc = false ∧ s2 = tx ∧ ec = true)) := by
          have h4 := told4 _ _ _ _ HBX.out
          rcases HX.out with ⟨rfl, h⟩ | ⟨rfl, h⟩ | ⟨rfl, h⟩ | ⟨rfl, h⟩
          · rw [h] at h4
            exact ⟨_, _, _, _, _, _, Lib.hid h4, Or.inl ⟨rfl, rfl, rfl, rfl, rfl, rfl, rfl⟩⟩
          · rw [h] at h4
            exact ⟨_, _, _, _, _, _, Lib.hid h4, Or.inr (Or.inl ⟨rfl, rfl, rfl, rfl, rfl, rfl, rfl⟩)⟩
          · rw [h] at h4
            exact ⟨_, _, _, _, _, _, Lib.hid h4, Or.inr (Or.inr (Or.inl ⟨rfl, rfl, rfl, rfl, rfl, rfl, rfl⟩))⟩
          · rw [h] at h4
            exact ⟨_, _, _, _, _, _, Lib.hid h4, Or.inr (Or.inr (Or.inr ⟨rfl, rfl, rfl, rfl, rfl, rfl, rfl⟩))⟩
        obtain ⟨tb, tc, nm, nc, tx, ec, HT4, hcs⟩ := hT
        clear HX hK
        obtain ⟨ta1, ta2, ta3, ta4⟩ := HT4.out
        have HA1 := Lib.hid ta1
        have HA2 := Lib.hid ta2
        have HA3 := Lib.hid ta3
        have HA4 := Lib.hid ta4
        clear ta1 ta2 ta3 ta4 HT4
        have htm : (m2 : Int).tmod 2 = (m2 : Int) % 2 := Int.tmod_eq_emod_of_nonneg (by omega)
        rcases hcs with ⟨rfl, rfl, rfl, rfl, rfl, rfl, rfl⟩ | ⟨rfl, htb, rfl, rfl, rfl, rfl, rfl⟩ | ⟨rfl, rfl, rfl, rfl, rfl, rfl, rfl⟩ | ⟨rfl, rfl, rfl, rfl, rfl, rfl, rfl⟩
        · as_aux_lemma =>
            go_wp2_with (first
              | (go_at_call 10; (with_reducible refine (HA1.out _ (by assumption)).mono ?_); rintro e wa ⟨rfl, hD1, _⟩; obtain ⟨⟨p5, p0, p1, p2, p3⟩, _⟩ := HCC.out _ hD1)
              | (go_at_call 11; (with_reducible refine (HA2.out _ (by assumption)).mono ?_); rintro e wb ⟨rfl, hD2, _⟩; obtain ⟨⟨p5, p0, p1, p2, p3⟩, _⟩ := HCC.out _ hD2)
              | (go_at_call 12; (with_reducible refine (HA3.out _ (by assumption)).mono ?_); rintro e wd ⟨rfl, hD3, _⟩; obtain ⟨⟨p5, p0, p1, p2, p3⟩, _⟩ := HCC.out _ hD3)
              | (go_at_call 13; (with_reducible refine (HNOO.out _ (by assumption)).mono ?_); rintro e we ⟨rfl, hD4, _⟩; obtain ⟨⟨p5, p0, p1, p2, p3⟩, _⟩ := HCC.out _ hD4)
              | (go_at_call 14; (with_reducible refine (HA4.out _ (by assumption)).mono ?_); rintro e wf ⟨rfl, hD5, _⟩; obtain ⟨⟨p5, p0, p1, p2, p3⟩, _⟩ := HCC.out _ hD5))
            obtain ⟨W9, hW9⟩ : ∃ W9, W9 = wf := ⟨_, rfl⟩
            have HD9 : Hid (Below wc.heap.size wc W9) := by rw [hW9]; exact Lib.hid hD5
            have HWF : Hid (W9 = wf) := Lib.hid hW9
            clear hW9
            go_loopw [141] (fun si wr => si = .int .i64 0 ∧ Hid (Below wc.heap.size wc wr)) (fun _ _ => 0)
            case atStart => exact ⟨rfl, by rw [← HWF.out]; exact HD9⟩
            case round =>
              obtain ⟨rfl, hR⟩ := hrel
              clear hD1 hD2 hD3 hD4 hD5 hb0
              have hE0 : Below wc.heap.size wc wr.drew := hR.out.drew
              go_wp2
              go_region_held_law (fun W => (W.cell? ⟨gb, 0, none⟩ = some v ∧ W.cell? ⟨gw, 0, none⟩ = some (.int .i64 0) ∧ W.cell? ⟨gw, 1, none⟩ = some (.int .u64 m2) ∧ W.cell? ⟨gw, 2, none⟩ = some (.string s2) ∧ W.cell? ⟨gw, 3, none⟩ = some (.slice ao2 len2 c2)) ∧ Below wc.heap.size wc W)
                  (first | exact HCC.out _ hE0 | exact HCC.out _ hE1 | exact HCC.out _ hE2 | exact HCC.out _ hE3 | exact HCC.out _ hE4 | exact HCC.out _ hE5 | exact HCC.out _ hE6 | exact HCC.out _ hE7 | assumption)
                  (first
                    | (go_at_call 15; (with_reducible refine (HG1.out _ (HCX.out _ (by assumption))).mono ?_); rintro e wa ⟨rfl, hE1, _⟩)
                    | (go_at_call 16; (with_reducible refine (HG2.out _ (HCX.out _ (by assumption))).mono ?_); rintro e wb ⟨rfl, hE2, _⟩)
                    | (go_at_call 17; (with_reducible refine (HG3.out _ (HCX.out _ (by assumption))).mono ?_); rintro e wd ⟨rfl, hE3, _⟩)
                    | (go_at_call 18; (with_reducible refine (HG4.out _ (HCX.out _ (by assumption))).mono ?_); rintro e we ⟨rfl, hE4, _⟩)
                    | (go_at_call 19; (with_reducible refine (HG5.out _ (HCX.out _ (by assumption))).mono ?_); rintro e wf ⟨rfl, hE5, _⟩)
                    | (go_at_call 20; (with_reducible refine (HG6.out _ (HCX.out _ (by assumption))).mono ?_); rintro e wg ⟨rfl, hE6, _⟩)
                    | (go_at_call 7; (with_reducible refine (HG7.out _ (HCX.out _ (by assumption))).mono ?_); rintro e wh ⟨rfl, hE7, _⟩))
              go_wp2
              go_ret
              exact ⟨rfl, HBW.out.trans (hE7.mono HBW.out.size)⟩
        · by_cases ho : (m2 : Int) % 2 = 1
          · as_aux_lemma =>
              have hd : ((m2 : Int) % 2 == 1) = true := by simpa using ho
              obtain rfl : tb = true := by rw [htb]; simpa using ho
              clear ho htb
              go_wp2_with (first
                | (go_at_call 10; (with_reducible refine (HA1.out _ (by assumption)).mono ?_); rintro e wa ⟨rfl, hD1, _⟩; obtain ⟨⟨p5, p0, p1, p2, p3⟩, _⟩ := HCC.out _ hD1)
                | (go_at_call 11; (with_reducible refine (HA2.out _ (by assumption)).mono ?_); rintro e wb ⟨rfl, hD2, _⟩; obtain ⟨⟨p5, p0, p1, p2, p3⟩, _⟩ := HCC.out _ hD2)
                | (go_at_call 12; (with_reducible refine (HA3.out _ (by assumption)).mono ?_); rintro e wd ⟨rfl, hD3, _⟩; obtain ⟨⟨p5, p0, p1, p2, p3⟩, _⟩ := HCC.out _ hD3)
                | (go_at_call 13; (with_reducible refine (HNOO.out _ (by assumption)).mono ?_); rintro e we ⟨rfl, hD4, _⟩; obtain ⟨⟨p5, p0, p1, p2, p3⟩, _⟩ := HCC.out _ hD4)
                | (go_at_call 14; (with_reducible refine (HA4.out _ (by assumption)).mono ?_); rintro e wf ⟨rfl, hD5, _⟩; obtain ⟨⟨p5, p0, p1, p2, p3⟩, _⟩ := HCC.out _ hD5))
              obtain ⟨W9, hW9⟩ : ∃ W9, W9 = wf := ⟨_, rfl⟩
              have HD9 : Hid (Below wc.heap.size wc W9) := by rw [hW9]; exact Lib.hid hD5
              have HWF : Hid (W9 = wf) := Lib.hid hW9
              clear hW9
              go_loopw [141] (fun si wr => si = .int .i64 0 ∧ Hid (Below wc.heap.size wc wr)) (fun _ _ => 0)
              case atStart => exact ⟨rfl, by rw [← HWF.out]; exact HD9⟩
              case round =>
                obtain ⟨rfl, hR⟩ := hrel
                clear hD1 hD2 hD3 hD4 hD5 hb0
                have hE0 : Below wc.heap.size wc wr.drew := hR.out.drew
                go_wp2
                go_region_held_law (fun W => (W.cell? ⟨gb, 0, none⟩ = some v ∧ W.cell? ⟨gw, 0, none⟩ = some (.int .i64 1) ∧ W.cell? ⟨gw, 1, none⟩ = some (.int .u64 m2) ∧ W.cell? ⟨gw, 2, none⟩ = some (.string s2) ∧ W.cell? ⟨gw, 3, none⟩ = some (.slice ao2 len2 c2)) ∧ Below wc.heap.size wc W)
                    (first | exact HCC.out _ hE0 | exact HCC.out _ hE1 | exact HCC.out _ hE2 | exact HCC.out _ hE3 | exact HCC.out _ hE4 | exact HCC.out _ hE5 | exact HCC.out _ hE6 | exact HCC.out _ hE7 | assumption)
                    (first
                      | (go_at_call 15; (with_reducible refine (HG1.out _ (HCX.out _ (by assumption))).mono ?_); rintro e wa ⟨rfl, hE1, _⟩)
                      | (go_at_call 16; (with_reducible refine (HG2.out _ (HCX.out _ (by assumption))).mono ?_); rintro e wb ⟨rfl, hE2, _⟩)
                      | (go_at_call 17; (with_reducible refine (HG3.out _ (HCX.out _ (by assumption))).mono ?_); rintro e wd ⟨rfl, hE3, _⟩)
                      | (go_at_call 18; (with_reducible refine (HG4.out _ (HCX.out _ (by assumption))).mono ?_); rintro e we ⟨rfl, hE4, _⟩)
                      | (go_at_call 19; (with_reducible refine (HG5.out _ (HCX.out _ (by assumption))).mono ?_); rintro e wf ⟨rfl, hE5, _⟩)
                      | (go_at_call 20; (with_reducible refine (HG6.out _ (HCX.out _ (by assumption))).mono ?_); rintro e wg ⟨rfl, hE6, _⟩)
                      | (go_at_call 7; (with_reducible refine (HG7.out _ (HCX.out _ (by assumption))).mono ?_); rintro e wh ⟨rfl, hE7, _⟩))
                go_wp2
                go_ret
                exact ⟨rfl, HBW.out.trans (hE7.mono HBW.out.size)⟩
          · as_aux_lemma =>
              have hd : ((m2 : Int) % 2 == 1) = false := by simpa using ho
              obtain rfl : tb = false := by rw [htb]; simpa using ho
              clear ho htb
              go_wp2_with (first
                | (go_at_call 10; (with_reducible refine (HA1.out _ (by assumption)).mono ?_); rintro e wa ⟨rfl, hD1, _⟩; obtain ⟨⟨p5, p0, p1, p2, p3⟩, _⟩ := HCC.out _ hD1)
                | (go_at_call 11; (with_reducible refine (HA2.out _ (by assumption)).mono ?_); rintro e wb ⟨rfl, hD2, _⟩; obtain ⟨⟨p5, p0, p1, p2, p3⟩, _⟩ := HCC.out _ hD2)
                | (go_at_call 12; (with_reducible refine (HA3.out _ (by assumption)).mono ?_); rintro e wd ⟨rfl, hD3, _⟩; obtain ⟨⟨p5, p0, p1, p2, p3⟩, _⟩ := HCC.out _ hD3)
                | (go_at_call 13; (with_reducible refine (HNOO.out _ (by assumption)).mono ?_); rintro e we ⟨rfl, hD4, _⟩; obtain ⟨⟨p5, p0, p1, p2, p3⟩, _⟩ := HCC.out _ hD4)
                | (go_at_call 14; (with_reducible refine (HA4.out _ (by assumption)).mono ?_); rintro e wf ⟨rfl, hD5, _⟩; obtain ⟨⟨p5, p0, p1, p2, p3⟩, _⟩ := HCC.out _ hD5))
              obtain ⟨W9, hW9⟩ : ∃ W9, W9 = wf := ⟨_, rfl⟩
              have HD9 : Hid (Below wc.heap.size wc W9) := by rw [hW9]; exact Lib.hid hD5
              have HWF : Hid (W9 = wf) := Lib.hid hW9
              clear hW9
              go_loopw [141] (fun si wr => si = .int .i64 0 ∧ Hid (Below wc.heap.size wc wr)) (fun _ _ => 0)
              case atStart => exact ⟨rfl, by rw [← HWF.out]; exact HD9⟩
              case round =>
                obtain ⟨rfl, hR⟩ := hrel
                clear hD1 hD2 hD3 hD4 hD5 hb0
                have hE0 : Below wc.heap.size wc wr.drew := hR.out.drew
                go_wp2
                go_region_held_law (fun W => (W.cell? ⟨gb, 0, none⟩ = some v ∧ W.cell? ⟨gw, 0, none⟩ = some (.int .i64 1) ∧ W.cell? ⟨gw, 1, none⟩ = some (.int .u64 m2) ∧ W.cell? ⟨gw, 2, none⟩ = some (.string s2) ∧ W.cell? ⟨gw, 3, none⟩ = some (.slice ao2 len2 c2)) ∧ Below wc.heap.size wc W)
                    (first | exact HCC.out _ hE0 | exact HCC.out _ hE1 | exact HCC.out _ hE2 | exact HCC.out _ hE3 | exact HCC.out _ hE4 | exact HCC.out _ hE5 | exact HCC.out _ hE6 | exact HCC.out _ hE7 | assumption)
                    (first
                      | (go_at_call 15; (with_reducible refine (HG1.out _ (HCX.out _ (by assumption))).mono ?_); rintro e wa ⟨rfl, hE1, _⟩)
                      | (go_at_call 16; (with_reducible refine (HG2.out _ (HCX.out _ (by assumption))).mono ?_); rintro e wb ⟨rfl, hE2, _⟩)
                      | (go_at_call 17; (with_reducible refine (HG3.out _ (HCX.out _ (by assumption))).mono ?_); rintro e wd ⟨rfl, hE3, _⟩)
                      | (go_at_call 18; (with_reducible refine (HG4.out _ (HCX.out _ (by assumption))).mono ?_); rintro e we ⟨rfl, hE4, _⟩)
                      | (go_at_call 19; (with_reducible refine (HG5.out _ (HCX.out _ (by assumption))).mono ?_); rintro e wf ⟨rfl, hE5, _⟩)
                      | (go_at_call 20; (with_reducible refine (HG6.out _ (HCX.out _ (by assumption))).mono ?_); rintro e wg ⟨rfl, hE6, _⟩)
                      | (go_at_call 7; (with_reducible refine (HG7.out _ (HCX.out _ (by assumption))).mono ?_); rintro e wh ⟨rfl, hE7, _⟩))
                go_wp2
                go_ret
                exact ⟨rfl, HBW.out.trans (hE7.mono HBW.out.size)⟩
        · as_aux_lemma =>
            go_wp2_with (first
              | (go_at_call 10; (with_reducible refine (HA1.out _ (by assumption)).mono ?_); rintro e wa ⟨rfl, hD1, _⟩; obtain ⟨⟨p5, p0, p1, p2, p3⟩, _⟩ := HCC.out _ hD1)
              | (go_at_call 11; (with_reducible refine (HA2.out _ (by assumption)).mono ?_); rintro e wb ⟨rfl, hD2, _⟩; obtain ⟨⟨p5, p0, p1, p2, p3⟩, _⟩ := HCC.out _ hD2)
              | (go_at_call 12; (with_reducible refine (HA3.out _ (by assumption)).mono ?_); rintro e wd ⟨rfl, hD3, _⟩; obtain ⟨⟨p5, p0, p1, p2, p3⟩, _⟩ := HCC.out _ hD3)
              | (go_at_call 13; (with_reducible refine (HNOO.out _ (by assumption)).mono ?_); rintro e we ⟨rfl, hD4, _⟩; obtain ⟨⟨p5, p0, p1, p2, p3⟩, _⟩ := HCC.out _ hD4)
              | (go_at_call 14; (with_reducible refine (HA4.out _ (by assumption)).mono ?_); rintro e wf ⟨rfl, hD5, _⟩; obtain ⟨⟨p5, p0, p1, p2, p3⟩, _⟩ := HCC.out _ hD5))
            obtain ⟨W9, hW9⟩ : ∃ W9, W9 = wf := ⟨_, rfl⟩
            have HD9 : Hid (Below wc.heap.size wc W9) := by rw [hW9]; exact Lib.hid hD5
            have HWF : Hid (W9 = wf) := Lib.hid hW9
            clear hW9
            go_loopw [141] (fun si wr => si = .int .i64 0 ∧ Hid (Below wc.heap.size wc wr)) (fun _ _ => 0)
            case atStart => exact ⟨rfl, by rw [← HWF.out]; exact HD9⟩
            case round =>
              obtain ⟨rfl, hR⟩ := hrel
              clear hD1 hD2 hD3 hD4 hD5 hb0
              have hE0 : Below wc.heap.size wc wr.drew := hR.out.drew
              go_wp2
              go_region_held_law (fun W => (W.cell? ⟨gb, 0, none⟩ = some v ∧ W.cell? ⟨gw, 0, none⟩ = some (.int .i64 2) ∧ W.cell? ⟨gw, 1, none⟩ = some (.int .u64 m2) ∧ W.cell? ⟨gw, 2, none⟩ = some (.string s2) ∧ W.cell? ⟨gw, 3, none⟩ = some (.slice ao2 len2 c2)) ∧ Below wc.heap.size wc W)
                  (first | exact HCC.out _ hE0 | exact HCC.out _ hE1 | exact HCC.out _ hE2 | exact HCC.out _ hE3 | exact HCC.out _ hE4 | exact HCC.out _ hE5 | exact HCC.out _ hE6 | exact HCC.out _ hE7 | assumption)
                  (first
                    | (go_at_call 15; (with_reducible refine (HG1.out _ (HCX.out _ (by assumption))).mono ?_); rintro e wa ⟨rfl, hE1, _⟩)
                    | (go_at_call 16; (with_reducible refine (HG2.out _ (HCX.out _ (by assumption))).mono ?_); rintro e wb ⟨rfl, hE2, _⟩)
                    | (go_at_call 17; (with_reducible refine (HG3.out _ (HCX.out _ (by assumption))).mono ?_); rintro e wd ⟨rfl, hE3, _⟩)
                    | (go_at_call 18; (with_reducible refine (HG4.out _ (HCX.out _ (by assumption))).mono ?_); rintro e we ⟨rfl, hE4, _⟩)
                    | (go_at_call 19; (with_reducible refine (HG5.out _ (HCX.out _ (by assumption))).mono ?_); rintro e wf ⟨rfl, hE5, _⟩)
                    | (go_at_call 20; (with_reducible refine (HG6.out _ (HCX.out _ (by assumption))).mono ?_); rintro e wg ⟨rfl, hE6, _⟩)
                    | (go_at_call 7; (with_reducible refine (HG7.out _ (HCX.out _ (by assumption))).mono ?_); rintro e wh ⟨rfl, hE7, _⟩))
              go_wp2
              go_ret
              exact ⟨rfl, HBW.out.trans (hE7.mono HBW.out.size)⟩
        · as_aux_lemma =>
            go_wp2_with (first
              | (go_at_call 10; (with_reducible refine (HA1.out _ (by assumption)).mono ?_); rintro e wa ⟨rfl, hD1, _⟩; obtain ⟨⟨p5, p0, p1, p2, p3⟩, _⟩ := HCC.out _ hD1)
              | (go_at_call 11; (with_reducible refine (HA2.out _ (by assumption)).mono ?_); rintro e wb ⟨rfl, hD2, _⟩; obtain ⟨⟨p5, p0, p1, p2, p3⟩, _⟩ := HCC.out _ hD2)
              | (go_at_call 12; (with_reducible refine (HA3.out _ (by assumption)).mono ?_); rintro e wd ⟨rfl, hD3, _⟩; obtain ⟨⟨p5, p0, p1, p2, p3⟩, _⟩ := HCC.out _ hD3)
              | (go_at_call 13; (with_reducible refine (HNOO.out _ (by assumption)).mono ?_); rintro e we ⟨rfl, hD4, _⟩; obtain ⟨⟨p5, p0, p1, p2, p3⟩, _⟩ := HCC.out _ hD4)
              | (go_at_call 14; (with_reducible refine (HA4.out _ (by assumption)).mono ?_); rintro e wf ⟨rfl, hD5, _⟩; obtain ⟨⟨p5, p0, p1, p2, p3⟩, _⟩ := HCC.out _ hD5))
            obtain ⟨W9, hW9⟩ : ∃ W9, W9 = wf := ⟨_, rfl⟩
            have HD9 : Hid (Below wc.heap.size wc W9) := by rw [hW9]; exact Lib.hid hD5
            have HWF : Hid (W9 = wf) := Lib.hid hW9
            clear hW9
            go_loopw [141] (fun si wr => si = .int .i64 0 ∧ Hid (Below wc.heap.size wc wr)) (fun _ _ => 0)
            case atStart => exact ⟨rfl, by rw [← HWF.out]; exact HD9⟩
            case round =>
              obtain ⟨rfl, hR⟩ := hrel
              clear hD1 hD2 hD3 hD4 hD5 hb0
              have hE0 : Below wc.heap.size wc wr.drew := hR.out.drew
              go_wp2
              go_region_held_law (fun W => (W.cell? ⟨gb, 0, none⟩ = some v ∧ W.cell? ⟨gw, 0, none⟩ = some (.int .i64 3) ∧ W.cell? ⟨gw, 1, none⟩ = some (.int .u64 m2) ∧ W.cell? ⟨gw, 2, none⟩ = some (.string s2) ∧ W.cell? ⟨gw, 3, none⟩ = some (.slice ao2 len2 c2)) ∧ Below wc.heap.size wc W)
                  (first | exact HCC.out _ hE0 | exact HCC.out _ hE1 | exact HCC.out _ hE2 | exact HCC.out _ hE3 | exact HCC.out _ hE4 | exact HCC.out _ hE5 | exact HCC.out _ hE6 | exact HCC.out _ hE7 | assumption)
                  (first
                    | (go_at_call 15; (with_reducible refine (HG1.out _ (HCX.out _ (by assumption))).mono ?_); rintro e wa ⟨rfl, hE1, _⟩)
                    | (go_at_call 16; (with_reducible refine (HG2.out _ (HCX.out _ (by assumption))).mono ?_); rintro e wb ⟨rfl, hE2, _⟩)
                    | (go_at_call 17; (with_reducible refine (HG3.out _ (HCX.out _ (by assumption))).mono ?_); rintro e wd ⟨rfl, hE3, _⟩)
                    | (go_at_call 18; (with_reducible refine (HG4.out _ (HCX.out _ (by assumption))).mono ?_); rintro e we ⟨rfl, hE4, _⟩)
                    | (go_at_call 19; (with_reducible refine (HG5.out _ (HCX.out _ (by assumption))).mono ?_); rintro e wf ⟨rfl, hE5, _⟩)
                    | (go_at_call 20; (with_reducible refine (HG6.out _ (HCX.out _ (by assumption))).mono ?_); rintro e wg ⟨rfl, hE6, _⟩)
                    | (go_at_call 7; (with_reducible refine (HG7.out _ (HCX.out _ (by assumption))).mono ?_); rintro e wh ⟨rfl, hE7, _⟩))
              go_wp2
              go_ret
              exact ⟨rfl, HBW.out.trans (hE7.mono HBW.out.size)⟩
end Go.Proofs.YtbghemndcndhpaaDoor
