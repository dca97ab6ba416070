/- Rows of the call's own that grow, beside a node's box and rows of pairs. No program but types. bowerref11.Pairs: the entries of a leaf. Condition: as many values as keys; sizes that fit. bowerref11.Of: a leaf with a map's pairs. Condition: the map's pairs, in order, are those of a rising row; sizes that fit. Plain facts on the pairs of a leaf: what Put, Delete and Get make of them. No program, no world. -/
import Derived.Test.YtnlghdkgejimpaaNodeTwo2
import Derived.Test.YtnlghdkgejimpaaNodeSameOps
import Derived.Test.YtnlghdkgejimpaaPairScan
import Derived.Test.YtnlghdkgejimpaaNods
import Derived.Deep.AppendLies
import Derived.Test.YtnlghdkgejimpaaLeafIs
import Derived.Deep.RegionHeldLaw
import Derived.Deep.DeepCutAuto
import Derived.Test.YtnlghdkgejimpaaPairState
import Derived.Test.YtnlghdkgejimpaaPairPut
import Derived.Test.YtnlghdkgejimpaaLeafMath
namespace Go.Proofs.Ytnlghdkgejimpaa
open Go.RowKit

/-- A row of the call's own, of elements of one cell. -/
def OwnR (w : World) (B : Nat) (t : TypeId) (v : Value) (xs : List Value) : Prop := w.ownsRow B t 1 v xs.length xs
/-- A row's block, if there is one, has that type. -/
def InT (w : World) (r : Option Nat) (t : TypeId) : Prop := ∀ g, r = some g → ∃ cs fr, w.heap[g]? = some (.cells cs t fr)

section
variable {w w' : World} {B : Nat} {t t' : TypeId} {k n : Nat} {v : Value} {xs : List Value} {row : Option Nat}
theorem own_inT (h : w.ownsRow B t k v n xs) : InT w v.ownBlock t := by
  rcases h.2 with ⟨rfl, _⟩ | ⟨g, cap, cur, rfl, _, hg, _⟩
  · intro g h; cases h
  · intro g' h
    injection h with h
    subst h
    exact ⟨_, _, hg⟩
theorem nb_inT {A : Nat} {cs : Array Value} (h : NB w A cs) : InT w (some A) 26 := by
  intro g e
  injection e with e
  subst e
  exact ⟨_, _, h⟩
theorem inT_ne {g : Nat} {cs : Array Value} {fr : Nat × Nat} (h : w.heap[g]? = some (.cells cs t fr)) (hr : InT w row t') (hne : t ≠ t') : some g ≠ row := by
  intro e
  obtain ⟨c2, f2, e2⟩ := hr g e.symm
  rw [h] at e2
  injection e2 with e2
  injection e2 with _ e3 _
  exact hne e3
theorem own_keeps (h : w.ownsRow B t k v n xs) (hg : w.grownBy w' row) (hr : InT w row t') (hne : t ≠ t') : w'.ownsRow B t k v n xs := by
  refine h.kept hg ?_
  rcases h.2 with ⟨rfl, _⟩ | ⟨g, cap, cur, rfl, _, h1, _⟩
  · exact Or.inl rfl
  · exact Or.inr (inT_ne h1 hr hne)
theorem own_stays (h : w.ownsRow B t k v n xs) (hb : Below w.heap.size w w') : w'.ownsRow B t k v n xs := by
  refine ⟨h.1, ?_⟩
  rcases h.2 with hn | ⟨g, cap, cur, rfl, hbg, hg, rest⟩
  · exact Or.inl hn
  · exact Or.inr ⟨g, cap, cur, rfl, hbg, by rw [hb.block g (lt_of_block hg)]; exact hg, rest⟩
theorem own_base {C : Nat} (h : w.ownsRow B t k v n xs) (hc : C ≤ B) : w.ownsRow C t k v n xs := by
  refine ⟨h.1, ?_⟩
  rcases h.2 with hn | ⟨g, cap, cur, rfl, hbg, rest⟩
  · exact Or.inl hn
  · exact Or.inr ⟨g, cap, cur, rfl, by omega, rest⟩
theorem own_moved (h : w.ownsRow B t k v n xs) (hh : ∀ (g : Nat) (cs : Array Value), w.heap[g]? = some (Obj.cells cs t (0, 0)) → w'.heap[g]? = w.heap[g]?) : w'.ownsRow B t k v n xs := by
  refine ⟨h.1, ?_⟩
  rcases h.2 with hn | ⟨g, cap, cur, rfl, hbg, hg, rest⟩
  · exact Or.inl hn
  · exact Or.inr ⟨g, cap, cur, rfl, hbg, by rw [hh g cur hg]; exact hg, rest⟩
theorem own_wr5 {A : Nat} {cs : Array Value} (h : w.ownsRow B t k v n xs) (hA : NB w A cs) (hne : 26 ≠ t) (l : List (Nat × Value)) : (wr5 w A l).ownsRow B t k v n xs :=
  own_moved h (fun g c hg => wr5_far A g (by
    intro e
    subst e
    unfold NB at hA
    rw [hA] at hg
    injection hg with hg
    injection hg with _ e3 _
    exact hne e3) l w)
theorem NB.grown {A : Nat} {cs : Array Value} (h : NB w A cs) (hg : w.grownBy w' row) (hr : InT w row t') (hne : 26 ≠ t') : NB w' A cs :=
  (hg.block A (lt_of_block h) (inT_ne h hr hne)).trans h
theorem grown_set (w : World) (g i : Nat) (u : Value) : w.grownBy (w.setCell ⟨g, i, none⟩ u) (some g) :=
  ⟨rfl, rfl, rfl, by simp [World.setCell], fun k _ hne => Below.heap_setCell w ⟨g, i, none⟩ u k (fun e => hne (by rw [e]))⟩
theorem OwnR.nil (w : World) (B : Nat) (t : TypeId) : OwnR w B t (.slice none 0 0) [] := World.ownsRow_nil _ _ _ _
theorem OwnR.open (h : OwnR w B t v xs) : ∃ ao c, v = .slice ao xs.length c := by
  rcases h.2 with ⟨rfl, hz⟩ | ⟨g, cap, cur, rfl, _⟩
  · exact ⟨none, 0, by rw [hz]⟩
  · exact ⟨_, _, rfl⟩
theorem OwnR.rd (h : OwnR w B t v xs) : Rd w v xs := rd_of_owns h
theorem OwnR.keep (h : OwnR w B t v xs) (hb : Below w.heap.size w w') : OwnR w' B t v xs := own_stays h hb
theorem OwnR.far {ao : Option Addr} {n c : Nat} (h : OwnR w B t (.slice ao n c) xs) : Far B ao := by
  intro p hp
  rcases h.2 with ⟨e, _⟩ | ⟨g, cap, cur, e, hb, _⟩
  · injection e with e _ _
    rw [hp] at e; cases e
  · injection e with e _ _
    rw [hp] at e
    injection e with e
    rw [e]; exact hb
theorem OwnP.grown {ps : List (ByteArray × Int)} (h : OwnP w B v ps) (hg : w.grownBy w' row) (hr : InT w row t') (hne : 37 ≠ t') : OwnP w' B v ps := own_keeps h hg hr hne
end

/-- The pairs of two rows. -/
def prs (ks : List ByteArray) (vs : List Nat) : List (ByteArray × Int) := List.zipWith (fun (k : ByteArray) (v : Nat) => (k, (v : Int))) ks vs
theorem prs_len {ks : List ByteArray} {vs : List Nat} (h : vs.length = ks.length) : (prs ks vs).length = ks.length := by
  unfold prs; rw [List.length_zipWith, h, Nat.min_self]
theorem prs_at {ks : List ByteArray} {vs : List Nat} (h : vs.length = ks.length) (i : Nat) (hi : i < ks.length) : ntp (prs ks vs) i = (nth ks i, (nu vs i : Int)) := by
  rw [ntp_eq (by rw [prs_len h]; exact hi), nth_eq hi, nu_eq (by omega)]
  unfold prs
  rw [List.getElem_zipWith]
theorem ones2 (s : ByteArray) (z : Int) : ∀ u ∈ [Value.string s, .int .u64 z], u.oneCell' = true := by
  intro u hu; simp at hu; rcases hu with rfl | rfl <;> rfl
end Go.Proofs.Ytnlghdkgejimpaa

namespace Go.Proofs.Ytnlghdkgejimpaa
open Go.RowKit

set_option maxHeartbeats 2000000 in
set_option maxRecDepth 100000 in
theorem rpairs_any (lv nx : Int) (lo hi : ByteArray) (la : Bool) (ak av ac : Option Addr) (ck cv cc : Nat) (ks : List ByteArray) (vs : List Nat) (cs : List Int) (w : World) (hN : NdAt w ak av ac ks.length ck vs.length cv cs.length cc ks vs cs) (hv : vs.length = ks.length) (hn : ks.length ≤ 274877906943) :
    Calls Try.prog 22 #[.agg #[.int .i64 lv, .string lo, .string hi, .bool la, .int .i64 nx, .slice ak ks.length ck, .slice av vs.length cv, .slice ac cs.length cc]] w fun e w' => DelGives w w' e (prs ks vs) := by
  have HB := Lib.hid (boxed_below w (.cells #[.int .i64 lv, .string lo, .string hi, .bool la, .int .i64 nx, .slice ak ks.length ck, .slice av vs.length cv, .slice ac cs.length cc] 26))
  have HNB := Lib.hid (NB.new w #[.int .i64 lv, .string lo, .string hi, .bool la, .int .i64 nx, .slice ak ks.length ck, .slice av vs.length cv, .slice ac cs.length cc])
  obtain ⟨w1, hw1⟩ : ∃ w1, w1 = w.alloc (.cells #[.int .i64 lv, .string lo, .string hi, .bool la, .int .i64 nx, .slice ak ks.length ck, .slice av vs.length cv, .slice ac cs.length cc] 26) := ⟨_, rfl⟩
  rw [← hw1] at HB HNB
  have HSZ : Hid (w1.heap.size = w.heap.size + 1) := Lib.hid (by rw [hw1, World.size_alloc])
  have HW1 := Lib.hid hw1
  have HND := Lib.hid hN
  have HPL := Lib.hid (prs_len hv)
  have HPA := Lib.hid (fun i hi => prs_at hv i hi)
  have HF : Hid ((prs ks vs).take ks.length = prs ks vs) := Lib.hid (by rw [← prs_len hv]; exact List.take_length)
  have HV := Lib.hid hv
  obtain ⟨i0, hi, hz0, hz1, hz2⟩ := info_parts infoPair
  have HI := Lib.hid (show _ ∧ _ ∧ _ ∧ _ from ⟨hi, hz0, hz1, hz2⟩)
  have q5 := HNB.out.cells.2.2.2.2.2.1
  clear hN hv hi hz0 hz1 hz2 hw1
  generalize prs ks vs = ss at *
  go_enter Try.func22, Try.ntmps22
  go_wp2
  rw [← HW1.out]
  go_loopw [3, 4] (fun out s wr => ∃ i : Nat, s = .int .i64 i ∧ i ≤ ks.length ∧ Hid (OwnP wr (w.heap.size + 1) out (ss.take i)) ∧ Hid (NB wr w.heap.size #[.int .i64 lv, .string lo, .string hi, .bool la, .int .i64 nx, .slice ak ks.length ck, .slice av vs.length cv, .slice ac cs.length cc]) ∧ Hid (Below w.heap.size w wr)) (fun _ s _ => ks.length - (intOf s).toNat)
  case atStart => exact ⟨0, rfl, Nat.zero_le _, Lib.hid (OwnP.nil _ _), HNB, HB⟩
  case round =>
    obtain ⟨i, rfl, hle, hO, hNB, hb⟩ := hrel
    obtain ⟨oo, oc, ho⟩ := hO.out.open
    have htl : (ss.take i).length = i := by rw [List.length_take, HPL.out]; omega
    rw [htl] at ho
    subst ho
    obtain ⟨q0, q1, q2, q3, q4, q5, q6, q7⟩ := hNB.out.cells
    by_cases hlt : i < ks.length
    · have hlv : i < vs.length := by rw [HV.out]; exact hlt
      obtain ⟨gk, ok, rfl, hck⟩ := rd_at (HND.out.k) ⟨#[]⟩ i hlt
      obtain ⟨gv, ov, rfl, hcv⟩ := rd_at (HND.out.v) 0 i hlv
      have HKR := Lib.hid (And.intro (hck i hlt) (hcv i hlv))
      have hpa := HPA.out i hlt
      have HPE := Lib.hid hpa
      clear hpa hck hcv
      have g1 : (i : Int) < ks.length := by omega
      have g2 : (i : Int) < vs.length := by omega
      unfold uv at HKR
      rw [show ks.getD i ⟨#[]⟩ = nth ks i from rfl, show vs.getD i 0 = nu vs i from rfl] at HKR
      generalize nth ks i = s at *
      generalize nu vs i = z at *
      have HC : Hid (∀ V, NB V w.heap.size #[.int .i64 lv, .string lo, .string hi, .bool la, .int .i64 nx, .slice (some ⟨gk, ok, none⟩) ks.length ck, .slice (some ⟨gv, ov, none⟩) vs.length cv, .slice ac cs.length cc] → Below w.heap.size w V → (V.cell? ⟨w.heap.size, 5, none⟩ = some (.slice (some ⟨gk, ok, none⟩) ks.length ck) ∧ V.cell? ⟨w.heap.size, 6, none⟩ = some (.slice (some ⟨gv, ov, none⟩) vs.length cv) ∧ V.cell? ⟨gk, ok + i, none⟩ = some (.string s) ∧ V.cell? ⟨gv, ov + i, none⟩ = some (.int .u64 z))) := Lib.hid (fun V hn hb2 => by
        obtain ⟨e0, e1, e2, e3, e4, e5, e6, e7⟩ := hn.cells
        have l1 := World.block_lt_of_cell? w _ HKR.out.1
        have l2 := World.block_lt_of_cell? w _ HKR.out.2
        exact ⟨e5, e6, (hb2.cell (p := ⟨gk, ok + i, none⟩) l1).trans HKR.out.1, (hb2.cell (p := ⟨gv, ov + i, none⟩) l2).trans HKR.out.2⟩)
      have hS0 := HC.out wr.drew hNB.out hb.out.drew
      have hB1 : Below wr.heap.size wr (wr.drew.alloc (.cells #[.string s, .int .u64 z] 37)) := (Below.refl wr.heap.size wr).drew.alloc (Nat.le_refl _) _
      have hS1 := HC.out _ (hNB.out.below hB1) (hb.out.trans (hB1.mono hb.out.size))
      have HB1 := Lib.hid hB1
      have HO1 : Hid ((wr.drew.alloc (.cells #[.string s, .int .u64 z] 37)).ownsRow (w.heap.size + 1) 37 2 (.slice oo i oc) i (pcells (ss.take i))) := Lib.hid (by have h5 := hO.out.keep hB1; unfold OwnP at h5; rw [htl] at h5; exact h5)
      have HN1 := Lib.hid (hNB.out.below hB1)
      have HB2 := Lib.hid (hb.out.trans (hB1.mono hb.out.size))
      have hsz : w.heap.size + 1 ≤ wr.heap.size := by have := lt_of_block hNB.out; omega
      clear hB1
      go_wp2
      clear q0 q1 q2 q3 q4 q5 q6 q7
      go_region_held_law (fun V => (V.cell? ⟨w.heap.size, 5, none⟩ = some (.slice (some ⟨gk, ok, none⟩) ks.length ck) ∧ V.cell? ⟨w.heap.size, 6, none⟩ = some (.slice (some ⟨gv, ov, none⟩) vs.length cv) ∧ V.cell? ⟨gk, ok + i, none⟩ = some (.string s) ∧ V.cell? ⟨gv, ov + i, none⟩ = some (.int .u64 z)))
        (first | exact hS0 | exact hS1 | exact hS9 | assumption)
        (first | (refine step_append_lies _ rfl (.tmp 12) (.tmp 24) 41 rfl (w.heap.size + 1) 37 i0 (.agg #[.string ⟨#[]⟩, .int .u64 0]) 2 24 Try.underlying41 HI.out.1 HI.out.2.1 HI.out.2.2.1 HI.out.2.2.2 rfl (by decide) (.slice oo i oc) i (pcells (ss.take i)) (by simp [Act.eval]) HO1.out ⟨wr.heap.size, 0, none⟩ 1 1 [.string s, .int .u64 z] (by simp [Act.eval]) rfl (two_news _ _ _ _) (ones2 _ _) (by omega) (by unfold maxLen; omega) (by omega) (by simp; omega) _ rfl ?_; intro g cap w9 hown9 hgrow9 _ _; have N9 := Lib.hid (HN1.out.grown hgrow9 (own_inT HO1.out) (by decide)); have B9 := Lib.hid (HB2.out.grown hgrow9 HB2.out.size (fun k hk => Nat.le_of_succ_le (HO1.out.lt k hk).1)); have O9 := Lib.hid (ownp_next hown9 (by rw [HPL.out]; exact hlt) HPE.out); have hS9 := HC.out w9 N9.out B9.out; clear hown9 hgrow9))
      go_wp2
      go_roundw
      case rel => exact ⟨i + 1, by go_num, by omega, O9, N9, B9⟩
      case measure => simp [intOf]; omega
    · obtain rfl : i = ks.length := by omega
      have HO9 := Lib.hid hO.out
      rw [HF.out] at HO9
      go_wp2
      go_ret
      exact ⟨_, rfl, HO9.out.base (by omega), hb.out⟩
end Go.Proofs.Ytnlghdkgejimpaa

namespace Go.Proofs.Ytnlghdkgejimpaa
open Go.RowKit

def kOf (ss : List (ByteArray × Int)) : List Value := ss.map fun p => Value.string p.1
def vOf (ss : List (ByteArray × Int)) : List Value := ss.map fun p => Value.int .u64 p.2
theorem kOf_more (ss : List (ByteArray × Int)) (a : Nat) (h : a < ss.length) : (kOf ss).take (a + 1) = (kOf ss).take a ++ [.string (ntp ss a).1] := by
  rw [List.take_succ_eq_append_getElem (by unfold kOf; rw [List.length_map]; exact h), ntp_eq h]
  unfold kOf
  rw [List.getElem_map]
theorem vOf_more (ss : List (ByteArray × Int)) (a : Nat) (h : a < ss.length) : (vOf ss).take (a + 1) = (vOf ss).take a ++ [.int .u64 (ntp ss a).2] := by
  rw [List.take_succ_eq_append_getElem (by unfold vOf; rw [List.length_map]; exact h), ntp_eq h]
  unfold vOf
  rw [List.getElem_map]

/-- While it gathers: the box, the result's box, two rows that grow, and the pairs. -/
structure OfAt (w wr : World) (c0 c1 c2 c3 c4 c7 kv vv l : Value) (a b : Nat) (ss : List (ByteArray × Int)) : Prop where
  box : NB wr w.heap.size #[c0, c1, c2, c3, c4, kv, vv, c7]
  res : NB wr (w.heap.size + 1) #[.int .i64 0, .string ⟨#[]⟩, .string ⟨#[]⟩, .bool false, .int .i64 0, .slice none 0 0, .slice none 0 0, .slice none 0 0]
  keys : wr.ownsRow (w.heap.size + 2) 9 1 kv a ((kOf ss).take a)
  vals : wr.ownsRow (w.heap.size + 2) 27 1 vv b ((vOf ss).take b)
  row : OwnP wr (w.heap.size + 2) l ss
  below : Below w.heap.size w wr
section
variable {w wr w9 : World} {c0 c1 c2 c3 c4 c7 kv vv l u : Value} {a b : Nat} {ss : List (ByteArray × Int)}
theorem OfAt.keep (h : OfAt w wr c0 c1 c2 c3 c4 c7 kv vv l a b ss) (hb : Below wr.heap.size wr w9) : OfAt w w9 c0 c1 c2 c3 c4 c7 kv vv l a b ss :=
  ⟨h.box.below hb, h.res.below hb, own_stays h.keys hb, own_stays h.vals hb, h.row.keep hb, h.below.trans (hb.mono h.below.size)⟩
theorem OfAt.size (h : OfAt w wr c0 c1 c2 c3 c4 c7 kv vv l a b ss) : w.heap.size + 2 ≤ wr.heap.size := by have := lt_of_block h.res; omega
theorem OfAt.boxK (h : OfAt w wr c0 c1 c2 c3 c4 c7 kv vv l a b ss) (hg : wr.grownBy w9 kv.ownBlock) : NB w9 w.heap.size #[c0, c1, c2, c3, c4, kv, vv, c7] := h.box.grown hg (own_inT h.keys) (by decide)
theorem OfAt.boxV (h : OfAt w wr c0 c1 c2 c3 c4 c7 kv vv l a b ss) (hg : wr.grownBy w9 vv.ownBlock) : NB w9 w.heap.size #[c0, c1, c2, c3, c4, kv, vv, c7] := h.box.grown hg (own_inT h.vals) (by decide)
theorem OfAt.addK (h : OfAt w wr c0 c1 c2 c3 c4 c7 kv vv l a b ss) (hg : wr.grownBy w9 kv.ownBlock) (ho : w9.ownsRow (w.heap.size + 2) 9 1 u (a + 1) ((kOf ss).take a ++ [.string (ntp ss a).1])) (ha : a < ss.length) :
    OfAt w (w9.setCell ⟨w.heap.size, 5, none⟩ u) c0 c1 c2 c3 c4 c7 u vv l (a + 1) b ss := by
  have hr := own_inT h.keys
  have b9 := h.boxK hg
  have r9 := h.res.grown hg hr (by decide)
  have v9 := own_keeps h.vals hg hr (by decide)
  have p9 := h.row.grown hg hr (by decide)
  have hs := grown_set w9 w.heap.size 5 u
  have hn := nb_inT b9
  rw [← kOf_more ss a ha] at ho
  exact ⟨b9.s5 u, r9.far (by show w.heap.size + 1 ≠ w.heap.size; omega) u, own_keeps ho hs hn (by decide), own_keeps v9 hs hn (by decide), p9.grown hs hn (by decide), (h.below.grown hg h.below.size (fun k hk => by have := (h.keys.lt k hk).1; omega)).setCell (Nat.le_refl _) u⟩
theorem OfAt.addV (h : OfAt w wr c0 c1 c2 c3 c4 c7 kv vv l a b ss) (hg : wr.grownBy w9 vv.ownBlock) (ho : w9.ownsRow (w.heap.size + 2) 27 1 u (b + 1) ((vOf ss).take b ++ [.int .u64 (ntp ss b).2])) (ha : b < ss.length) :
    OfAt w (w9.setCell ⟨w.heap.size, 6, none⟩ u) c0 c1 c2 c3 c4 c7 kv u l a (b + 1) ss := by
  have hr := own_inT h.vals
  have b9 := h.boxV hg
  have r9 := h.res.grown hg hr (by decide)
  have v9 := own_keeps h.keys hg hr (by decide)
  have p9 := h.row.grown hg hr (by decide)
  have hs := grown_set w9 w.heap.size 6 u
  have hn := nb_inT b9
  rw [← vOf_more ss b ha] at ho
  exact ⟨b9.s6 u, r9.far (by show w.heap.size + 1 ≠ w.heap.size; omega) u, own_keeps v9 hs hn (by decide), own_keeps ho hs hn (by decide), p9.grown hs hn (by decide), (h.below.grown hg h.below.size (fun k hk => by have := (h.vals.lt k hk).1; omega)).setCell (Nat.le_refl _) u⟩
end
theorem news_one (w : World) (u : Value) (t : TypeId) : ∀ j x, [u][j]? = some x → (w.alloc (.cells #[u] t)).cell? ((⟨w.heap.size, 0, none⟩ : Addr).add j) = some x :=
  World.news_of_block (cs := #[u]) (heap_alloc_new w _)
theorem ones_s (s : ByteArray) : ∀ u ∈ [Value.string s], u.oneCell' = true := by intro u hu; simp at hu; rw [hu]; rfl
theorem ones_u (z : Int) : ∀ u ∈ [Value.int .u64 z], u.oneCell' = true := by intro u hu; simp at hu; rw [hu]; rfl

/-- A leaf is told, with new rows. -/
def OfGives (w w' : World) (e : Ending) (lv nx : Int) (lo hi : ByteArray) (la : Bool) (ac : Option Addr) (nc cc : Nat) (ss : List (ByteArray × Int)) : Prop :=
  ∃ (ka va : Option Addr) (kc vc : Nat), e = .returned (.agg #[.int .i64 lv, .string lo, .string hi, .bool la, .int .i64 nx, .slice ka ss.length kc, .slice va ss.length vc, .slice ac nc cc]) ∧
    w'.ownsRow (w.heap.size + 2) 9 1 (.slice ka ss.length kc) ss.length (kOf ss) ∧ w'.ownsRow (w.heap.size + 2) 27 1 (.slice va ss.length vc) ss.length (vOf ss) ∧ Below w.heap.size w w'

set_option maxHeartbeats 2000000 in
set_option maxRecDepth 100000 in
theorem rof_any (lv nx : Int) (lo hi : ByteArray) (la : Bool) (ak av ac : Option Addr) (ck cv cc : Nat) (ks : List ByteArray) (vs : List Nat) (cs : List Int) (m : Value) (ps ss : List (ByteArray × Int)) (w : World) (hr : RdP w m ps) (hs : SameS ps ss) (hu : RiseP ss) (hl : ps.length = ss.length) (hn : ps.length ≤ 274877906943) (hz : ∀ p ∈ ps, p.1.size ≤ 140737488355328) :
    Calls Try.prog 52 #[.agg #[.int .i64 lv, .string lo, .string hi, .bool la, .int .i64 nx, .slice ak ks.length ck, .slice av vs.length cv, .slice ac cs.length cc], m] w fun e w' => OfGives w w' e lv nx lo hi la ac cs.length cc ss := by
  obtain ⟨n1, n2, hB⟩ := boxes2 w #[.int .i64 lv, .string lo, .string hi, .bool la, .int .i64 nx, .slice ak ks.length ck, .slice av vs.length cv, .slice ac cs.length cc] #[.int .i64 0, .string ⟨#[]⟩, .string ⟨#[]⟩, .bool false, .int .i64 0, .slice none 0 0, .slice none 0 0, .slice none 0 0]
  obtain ⟨w1, hw1⟩ : ∃ w1, w1 = (w.alloc (.cells #[.int .i64 lv, .string lo, .string hi, .bool la, .int .i64 nx, .slice ak ks.length ck, .slice av vs.length cv, .slice ac cs.length cc] 26)).alloc (.cells #[.int .i64 0, .string ⟨#[]⟩, .string ⟨#[]⟩, .bool false, .int .i64 0, .slice none 0 0, .slice none 0 0, .slice none 0 0] 26) := ⟨_, rfl⟩
  rw [← hw1] at n1 n2 hB
  have hsz : w1.heap.size = w.heap.size + 2 := by rw [hw1, World.size_alloc, World.size_alloc]
  -- the two rows begin anew
  obtain ⟨w2, hw2⟩ : ∃ w2, w2 = (w1.setCell ⟨w.heap.size, 5, none⟩ (.slice none 0 0)).setCell ⟨w.heap.size, 6, none⟩ (.slice none 0 0) := ⟨_, rfl⟩
  have hz2 : w2.heap.size = w.heap.size + 2 := by rw [hw2, ← hsz]; simp [World.setCell]
  have HA : Hid (∀ W v, OwnP W w2.heap.size v ss → Below w2.heap.size w2 W → OfAt w W (.int .i64 lv) (.string lo) (.string hi) (.bool la) (.int .i64 nx) (.slice ac cs.length cc) (.slice none 0 0) (.slice none 0 0) v 0 0 ss) := Lib.hid (fun W v ho hb => by
    rw [hz2] at ho
    have b2 := (n1.s5 (.slice none 0 0)).s6 (.slice none 0 0)
    have r2 := (n2.far (p := ⟨w.heap.size, 5, none⟩) (by show w.heap.size + 1 ≠ w.heap.size; omega) (.slice none 0 0)).far (p := ⟨w.heap.size, 6, none⟩) (by show w.heap.size + 1 ≠ w.heap.size; omega) (.slice none 0 0)
    rw [← hw2] at b2 r2
    have hb2 : Below w.heap.size w w2 := by rw [hw2]; exact (hB.setCell (Nat.le_refl _) _).setCell (Nat.le_refl _) _
    exact ⟨b2.below hb, r2.below hb, World.ownsRow_nil _ _ _ _, World.ownsRow_nil _ _ _ _, ho, hb2.trans (hb.mono hb2.size)⟩)
  have HAL := Lib.hid (rall_any m ps ss w2 (hr.keep (by rw [hw2]; exact (hB.setCell (Nat.le_refl _) _).setCell (Nat.le_refl _) _)) hs hu hl (by omega) hz)
  have HW1 := Lib.hid hw1
  have HW2 := Lib.hid hw2
  have hq5 := n1.cells.2.2.2.2.2.1
  have hf5 := n1.frozen 5
  have hq6 := (n1.s5 (.slice none 0 0)).cells.2.2.2.2.2.2.1
  have hf6 := (n1.s5 (.slice none 0 0)).frozen 6
  obtain ⟨i0, hi0, hz0, hz1, hz3⟩ := info_parts infoStr
  have HI := Lib.hid (show _ ∧ _ ∧ _ ∧ _ from ⟨hi0, hz0, hz1, hz3⟩)
  obtain ⟨i1, hi1, hy0, hy1, hy3⟩ := info_parts infoU64
  have HJ := Lib.hid (show _ ∧ _ ∧ _ ∧ _ from ⟨hi1, hy0, hy1, hy3⟩)
  have HN : Hid (ss.length ≤ 274877906943) := Lib.hid (by omega)
  have HKM := Lib.hid (kOf_more ss)
  clear hr hs hu hl hn hz n1 n2 hB hw1 hw2 hsz hz2 hi0 hz0 hz1 hz3 hi1 hy0 hy1 hy3
  go_enter Try.func52, Try.ntmps52
  go_upto_region 1 with fail
  rw [← HW1.out]
  go_upto_region 3 with fail
  rw [← HW2.out]
  clear hq5 hf5 hq6 hf6
  go_wp2_with fail
  refine HAL.out.mono ?_
  rintro e w3 ⟨l, rfl, hO, hb⟩
  have H3 := Lib.hid (HA.out _ _ hO hb)
  obtain ⟨la2, lc2, hlo⟩ := hO.rd.open
  subst hlo
  clear hO hb HA HAL HW1 HW2
  go_wp2
  go_loopw [6] (fun s wr => ∃ (i : Nat) (ka va : Option Addr) (kc vc : Nat), s = .int .i64 i ∧ i ≤ ss.length ∧ Hid (OfAt w wr (.int .i64 lv) (.string lo) (.string hi) (.bool la) (.int .i64 nx) (.slice ac cs.length cc) (.slice ka i kc) (.slice va i vc) (.slice la2 ss.length lc2) i i ss)) (fun s _ => ss.length - (intOf s).toNat)
  case atStart => exact ⟨0, none, none, 0, 0, rfl, Nat.zero_le _, H3⟩
  case round =>
    obtain ⟨i, ka, va, kc, vc, rfl, hle, hA⟩ := hrel
    have HNN := HN.out
    by_cases hlt : i < ss.length
    · obtain ⟨gl, ol, rfl, hcs⟩ := hA.out.row.rd.at_ i hlt
      have hp1 := (hcs i hlt).1
      have hp2 := (hcs i hlt).2
      have q5 := hA.out.box.cells.2.2.2.2.2.1
      clear hcs
      have g1 : (i : Int) < ss.length := by omega
      obtain ⟨p, hpe⟩ : ∃ p, p = ntp ss i := ⟨_, rfl⟩
      rw [← hpe] at hp1 hp2
      obtain ⟨s, z⟩ := p
      have HPE := Lib.hid hpe.symm
      simp only at hp1 hp2
      clear hpe
      have hz2 := hA.out.size
      go_upto_region 7 with fail
      go_cut [] from 17 to 36 (fun wx => Hid (∃ ka2 kc2, OfAt w wx (.int .i64 lv) (.string lo) (.string hi) (.bool la) (.int .i64 nx) (.slice ac cs.length cc) (.slice ka2 (i + 1) kc2) (.slice va i vc) (.slice (some ⟨gl, ol, none⟩) ss.length lc2) (i + 1) i ss))
      case first =>
        have hB1 : Below wr.heap.size wr (wr.drew.alloc (.cells #[.string s] 9)) := (Below.refl wr.heap.size wr).drew.alloc (Nat.le_refl _) _
        have HA1 := Lib.hid (hA.out.keep hB1)
        have qa : (wr.alloc (.cells #[.string s] 9)).cell? ⟨w.heap.size, 5, none⟩ = some (.slice ka i kc) := HA1.out.box.cells.2.2.2.2.2.1
        clear hB1
        go_region_law (first | (refine step_append_lies _ rfl (.tmp 18) (.tmp 24) 22 rfl (w.heap.size + 2) 9 i0 (.string ⟨#[]⟩) 1 16 Try.underlying22 HI.out.1 HI.out.2.1 HI.out.2.2.1 HI.out.2.2.2 rfl (by decide) (.slice ka i kc) i ((kOf ss).take i) (by simp [Act.eval]) HA1.out.keys ⟨wr.heap.size, 0, none⟩ 1 1 [.string s] (by simp [Act.eval]) rfl (news_one _ _ _) (ones_s _) (by omega) (by unfold maxLen; omega) (by omega) (by simp; omega) _ rfl ?_; intro g cap w9 hown9 hgrow9 _ _; have n9 := HA1.out.boxK hgrow9; have e5 := n9.cells.2.2.2.2.2.1; have f5 := n9.frozen 5; have H9 := Lib.hid (HA1.out.addK (u := .slice (some ⟨g, 0, none⟩) (i + 1) cap) hgrow9 (by rw [HPE.out]; exact hown9) hlt); clear n9 hown9 hgrow9))
        all_goals
          go_wp2_with fail
          go_meet
          exact Lib.hid ⟨_, _, H9.out⟩
      case rest =>
        obtain ⟨ka2, kc2, hA2⟩ := hcut.out
        have HA2 := Lib.hid hA2
        clear hA2 hcut hp1 hp2 q5 hA
        obtain ⟨gl2, ol2, heq, hcs⟩ := HA2.out.row.rd.at_ i hlt
        injection heq with heq
        injection heq with e1 e2 _
        subst e1 e2
        have hp1 := (hcs i hlt).1
        have hp2 := (hcs i hlt).2
        rw [HPE.out] at hp1 hp2
        simp only at hp1 hp2
        have q6 := HA2.out.box.cells.2.2.2.2.2.2.1
        have hz3 := HA2.out.size
        clear hcs hz2
        go_upto_region 8 with fail
        have hB1 : Below wc.heap.size wc (wc.drew.alloc (.cells #[.int .u64 z] 27)) := (Below.refl wc.heap.size wc).drew.alloc (Nat.le_refl _) _
        have HA1 := Lib.hid (HA2.out.keep hB1)
        have qa : (wc.alloc (.cells #[.int .u64 z] 27)).cell? ⟨w.heap.size, 6, none⟩ = some (.slice va i vc) := HA1.out.box.cells.2.2.2.2.2.2.1
        clear hB1
        go_region_law (first | (refine step_append_lies _ rfl (.tmp 28) (.tmp 34) 23 rfl (w.heap.size + 2) 27 i1 (.int .u64 0) 1 8 Try.underlying23 HJ.out.1 HJ.out.2.1 HJ.out.2.2.1 HJ.out.2.2.2 rfl (by decide) (.slice va i vc) i ((vOf ss).take i) (by simp [Act.eval]) HA1.out.vals ⟨wc.heap.size, 0, none⟩ 1 1 [.int .u64 z] (by simp [Act.eval]) rfl (news_one _ _ _) (ones_u _) (by omega) (by unfold maxLen; omega) (by omega) (by simp; omega) _ rfl ?_; intro g cap w9 hown9 hgrow9 _ _; have n9 := HA1.out.boxV hgrow9; have e6 := n9.cells.2.2.2.2.2.2.1; have f6 := n9.frozen 6; have H9 := Lib.hid (HA1.out.addV (u := .slice (some ⟨g, 0, none⟩) (i + 1) cap) hgrow9 (by rw [HPE.out]; exact hown9) hlt); clear n9 hown9 hgrow9))
        all_goals
          go_wp2
          go_roundw
          case rel => exact ⟨i + 1, _, _, _, _, by go_num, by omega, H9⟩
          case measure => simp [intOf]; omega
    · obtain rfl : i = ss.length := by omega
      obtain ⟨q0, q1, q2, q3, q4, q5, q6, q7⟩ := hA.out.box.cells
      obtain ⟨t0, t1, t2, t3, t4, t5, t6, t7⟩ := hA.out.res.cells
      have f0 := hA.out.res.frozen 0
      have f1 := hA.out.res.frozen 1
      have f2 := hA.out.res.frozen 2
      have f3 := hA.out.res.frozen 3
      have f4 := hA.out.res.frozen 4
      have f5 := hA.out.res.frozen 5
      have f6 := hA.out.res.frozen 6
      have f7 := hA.out.res.frozen 7
      go_wp2
      refine bodyPost_ret (v := .agg #[.int .i64 lv, .string lo, .string hi, .bool la, .int .i64 nx, .slice ka ss.length kc, .slice va ss.length vc, .slice ac cs.length cc]) (by simp [results, Try.results52, go_sem, *]) rfl ?_
      have hk := hA.out.keys
      have hv := hA.out.vals
      rw [List.take_of_length_le (by unfold kOf; rw [List.length_map]; exact Nat.le_refl _)] at hk
      rw [List.take_of_length_le (by unfold vOf; rw [List.length_map]; exact Nat.le_refl _)] at hv
      refine ⟨_, _, _, _, rfl, ?_, ?_, ?_⟩
      · exact own_wr5 hk hA.out.res (by decide) [(0, _), (1, _), (2, _), (3, _), (4, _), (5, _), (6, _), (7, _)]
      · exact own_wr5 hv hA.out.res (by decide) [(0, _), (1, _), (2, _), (3, _), (4, _), (5, _), (6, _), (7, _)]
      · exact wr5_below (w.heap.size + 1) w.heap.size (by omega) [(0, _), (1, _), (2, _), (3, _), (4, _), (5, _), (6, _), (7, _)] w wr hA.out.below
end Go.Proofs.Ytnlghdkgejimpaa

namespace Go.Proofs.Ytnlghdkgejimpaa
open Go.RowKit

section
variable {ks : List ByteArray} {vs : List Nat}
theorem prs_get (h : vs.length = ks.length) (i : Nat) (hi : i < (prs ks vs).length) : (prs ks vs)[i] = (nth ks i, (nu vs i : Int)) := by
  rw [← ntp_eq hi]
  exact prs_at h i (by rw [prs_len h] at hi; exact hi)
theorem prs_rise (hr : Rises ks) (h : vs.length = ks.length) : RiseP (prs ks vs) := by
  unfold RiseP
  rw [List.pairwise_iff_getElem]
  intro i j hi hj hij
  rw [prs_get h, prs_get h]
  rw [prs_len h] at hj
  exact rises_nth hr hij hj
theorem prs_kept (hr : Rises ks) (h : vs.length = ks.length) : Kept (prs ks vs) (prs ks vs) := ⟨prs_rise hr h, List.Perm.refl _⟩
theorem prs_place (hr : Rises ks) (h : vs.length = ks.length) (k : ByteArray) : Place (prs ks vs) k (placeF ks k) := by
  obtain ⟨h1, h2, h3⟩ := edge_place hr k
  unfold pFind at h2 h3
  refine ⟨by rw [prs_len h]; exact h1, fun i hi hlt => ?_, fun i hi hle => ?_⟩
  · rw [prs_get h]
    have := h2 i hlt
    simpa using this
  · rw [prs_get h]
    rw [prs_len h] at hi
    have := h3 i hle hi
    simpa using this
theorem prs_key (h : vs.length = ks.length) (a : Nat) (ha : a < (prs ks vs).length) : (prs ks vs)[a].1 = nth ks a := by rw [prs_get h]
theorem prs_take (a : Nat) : prs (ks.take a) (vs.take a) = (prs ks vs).take a := by unfold prs; rw [List.take_zipWith]
theorem prs_drop (a : Nat) : prs (ks.drop a) (vs.drop a) = (prs ks vs).drop a := by unfold prs; rw [List.drop_zipWith]
theorem prs_append {a b : List ByteArray} {c d : List Nat} (h : a.length = c.length) : prs (a ++ b) (c ++ d) = prs a c ++ prs b d := by unfold prs; rw [List.zipWith_append h]
theorem prs_ins (h : vs.length = ks.length) (a : Nat) (k : ByteArray) (v : Nat) : prs (insF ks a k) (insF vs a v) = (prs ks vs).take a ++ (k, (v : Int)) :: (prs ks vs).drop a := by
  unfold insF
  rw [prs_append (by rw [List.length_take, List.length_take, h])]
  rw [prs_take, ← prs_drop]
  rfl
theorem prs_cut (h : vs.length = ks.length) (a : Nat) : prs (cutF ks a) (cutF vs a) = (prs ks vs).take a ++ (prs ks vs).drop (a + 1) := by
  unfold cutF
  rw [prs_append (by rw [List.length_take, List.length_take, h]), prs_take, prs_drop]
theorem prs_set (h : vs.length = ks.length) (a : Nat) (ha : a < ks.length) (v : Nat) : prs ks (vs.set a v) = (prs ks vs).take a ++ (nth ks a, (v : Int)) :: (prs ks vs).drop (a + 1) := by
  have e : vs.set a v = vs.take a ++ v :: vs.drop (a + 1) := by rw [List.set_eq_take_append_cons_drop, if_pos (by omega)]
  have e2 : ks = ks.take a ++ nth ks a :: ks.drop (a + 1) := by
    rw [nth_eq ha]
    conv => lhs; rw [← List.take_append_drop a ks]
    rw [List.drop_eq_getElem_cons ha]
  rw [e]
  conv => lhs; rw [e2]
  rw [prs_append (by rw [List.length_take, List.length_take, h]), prs_take]
  have : ∀ (a : List ByteArray) (b : List Nat) (x : ByteArray) (y : Nat), prs (x :: a) (y :: b) = (x, (y : Int)) :: prs a b := fun _ _ _ _ => rfl
  rw [this, prs_drop]
theorem kOf_prs (h : vs.length = ks.length) : kOf (prs ks vs) = ks.map Value.string := by
  apply List.ext_getElem
  · unfold kOf; rw [List.length_map, List.length_map, prs_len h]
  · intro i h1 h2
    unfold kOf at h1 ⊢
    rw [List.length_map] at h1 h2
    rw [List.getElem_map, List.getElem_map, prs_get h, nth_eq h2]
theorem vOf_prs (h : vs.length = ks.length) : vOf (prs ks vs) = vs.map uv := by
  apply List.ext_getElem
  · unfold vOf; rw [List.length_map, List.length_map, prs_len h, h]
  · intro i h1 h2
    unfold vOf at h1 ⊢
    rw [List.length_map] at h1 h2
    rw [List.getElem_map, List.getElem_map, prs_get h, nu_eq h2]
    rfl
theorem prs_texts (h : vs.length = ks.length) {B : Nat} (hk : ∀ x ∈ ks, x.size ≤ B) : ∀ p ∈ prs ks vs, p.1.size ≤ B := by
  intro p hp
  obtain ⟨i, hi, rfl⟩ := List.getElem_of_mem hp
  rw [prs_get h]
  rw [prs_len h] at hi
  rw [nth_eq hi]
  exact hk _ (List.getElem_mem hi)
/-- What Get tells of a leaf's pairs. -/
theorem prs_there (hr : Rises ks) (h : vs.length = ks.length) (k : ByteArray) : (getP (prs ks vs) k).2 = true ↔ thereF ks k := by
  constructor
  · intro hg
    have h1 := getP_mem (z := (getP (prs ks vs) k).1) (by rw [← hg])
    obtain ⟨i, hi, he⟩ := List.getElem_of_mem h1
    rw [prs_get h] at he
    rw [prs_len h] at hi
    injection he with he _
    have hE := edge_place hr k
    have hp : placeF ks k = i := by
      rcases Nat.lt_trichotomy (placeF ks k) i with g | g | g
      · have h2 := rises_nth hr g hi
        rw [he] at h2
        have h3 := hE.2.2 (placeF ks k) (Nat.le_refl _) (by omega)
        unfold pFind at h3
        rw [h2] at h3; cases h3
      · exact g
      · have h3 := hE.2.1 i g
        unfold pFind at h3
        rw [he, lss_irrefl] at h3
        cases h3
    unfold thereF
    rw [hp]
    exact ⟨hi, he⟩
  · intro ht
    have := (prs_kept hr h).get_old (at_ := placeF ks k) (k := k) (by rw [prs_len h]; exact ht.1) (by rw [prs_get h]; exact ht.2)
    rw [this]
theorem prs_with {n : Nod} {f2 : Int} (h0 : n.lv = 0) (h : n.Sound f2) (k : ByteArray) (v : Nat) : Kept (delP (prs n.ks n.vs) k ++ [(k, (v : Int))]) (prs (n.with k v).ks (n.with k v).vs) := by
  obtain ⟨e1, e2, e3⟩ := h.entries.leaf h0
  have hr := h.keys.rise
  have hp := prs_place hr e1 k
  unfold Nod.with
  by_cases ht : thereF n.ks k
  · rw [if_pos ht]
    show Kept _ (prs n.ks (n.vs.set _ v))
    rw [prs_set e1 _ ht.1, ht.2]
    exact (prs_kept hr e1).put_old hp (by rw [prs_len e1]; exact ht.1) (by rw [prs_get e1]; exact ht.2) _
  · rw [if_neg ht]
    show Kept _ (prs (insF _ _ _) (insF _ _ _))
    rw [prs_ins e1]
    exact (prs_kept hr e1).put_new hp (fun ha e => ht ⟨by rw [prs_len e1] at ha; exact ha, by rw [prs_get e1] at e; exact e⟩) _
theorem prs_without {n : Nod} {f2 : Int} (h0 : n.lv = 0) (h : n.Sound f2) {k : ByteArray} (ht : thereF n.ks k) : Kept (delP (prs n.ks n.vs) k) (prs (n.without k).ks (n.without k).vs) := by
  obtain ⟨e1, e2, e3⟩ := h.entries.leaf h0
  unfold Nod.without
  show Kept _ (prs (cutF _ _) (cutF _ _))
  rw [prs_cut e1]
  exact (prs_kept h.keys.rise e1).del_old (by rw [prs_len e1]; exact ht.1) (by rw [prs_get e1]; exact ht.2)
theorem with_lens {n : Nod} (h : n.vs.length = n.ks.length) (k : ByteArray) (v : Nat) : (n.with k v).vs.length = (n.with k v).ks.length := by
  unfold Nod.with
  by_cases ht : thereF n.ks k
  · rw [if_pos ht]; show (n.vs.set _ _).length = _; rw [List.length_set]; exact h
  · rw [if_neg ht]
    show (insF _ _ _).length = (insF _ _ _).length
    have hle : placeF n.ks k ≤ n.ks.length := List.findIdx_le_length
    rw [insF_len hle, insF_len (by rw [h]; exact hle), h]
theorem without_lens {n : Nod} (h : n.vs.length = n.ks.length) {k : ByteArray} (ht : thereF n.ks k) : (n.without k).vs.length = (n.without k).ks.length := by
  show (cutF _ _).length = (cutF _ _).length
  rw [cutF_len ht.1, cutF_len (by rw [h]; exact ht.1), h]
end
end Go.Proofs.Ytnlghdkgejimpaa
