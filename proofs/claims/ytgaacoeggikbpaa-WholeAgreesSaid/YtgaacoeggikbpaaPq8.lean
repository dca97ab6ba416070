/- whole.flawsOfTree: no flaws just if the nodes are a tree as it should be. Condition: few sound nodes, no two in one cell. whole.flawsOfTree, walked. Condition: few sound nodes, no two in one cell. node.Empty; bowerlaw10.lives: the chapter's examples. No condition. whole.Flaws, whole.Whole: whether nodes are a tree as it should be. Condition: few nodes, whose sizes fit and whose numbers are numbers. whole.Height: how many levels there are. Condition: few nodes, whose sizes fit. -/
import Derived.Test.YtgaacoeggikbpaaPq6
import Derived.Test.YtgaacoeggikbpaaPq7
import Derived.Test.YtgaacoeggikbpaaNodeCheck3
namespace Go.Proofs.Ytgaacoeggikbpaa
open Go.RowKit Go.Maps Go.Shelf
attribute [local go_sem] Oper.semAt_some

/-- The rules of a tree. -/
def trP (f : Nat) (ks : List Kn) (xs : List Int) (q j : Nat) : Bool :=
  if q = 0 then decide ((kAt ks j).c = 0) && !rootP (kAt ks j).n.lv (kAt ks j).n.lo (kAt ks j).n.la (kAt ks j).n.ks.length
  else if q = 1 then anyN (kAt ks j).n.cs.length (strK ks (kAt ks j))
  else if q = 2 then anyN (kAt ks j).n.cs.length (misK ks (kAt ks j))
  else if q = 3 then !(kAt ks j).n.la && !goesP ks (kAt ks j).n.lv (kAt ks j).n.nx (kAt ks j).n.hi
  else if q = 4 then decide ((kAt ks j).c ≠ 0) && decide ((kAt ks j).n.ks.length < leastN (kAt ks j).n.lv f)
  else decide (cin xs (kAt ks j).c = 0)
/-- No flaw of a tree. -/
def TrOk (f : Nat) (ks : List Kn) : Prop := ∀ j, j < ks.length →
  ((kAt ks j).c = 0 → rootP (kAt ks j).n.lv (kAt ks j).n.lo (kAt ks j).n.la (kAt ks j).n.ks.length = true) ∧
  (∀ i, i < (kAt ks j).n.cs.length → strK ks (kAt ks j) i = false ∧ fitK ks (kAt ks j) i = true) ∧
  ((kAt ks j).n.la = false → goesP ks (kAt ks j).n.lv (kAt ks j).n.nx (kAt ks j).n.hi = true) ∧
  ((kAt ks j).c ≠ 0 → leastN (kAt ks j).n.lv f ≤ (kAt ks j).n.ks.length) ∧ Rch ks (kAt ks j).c
theorem anyN_false {n : Nat} {P : Nat → Bool} : anyN n P = false ↔ ∀ i, i < n → P i = false := by
  constructor
  · intro h i hi
    cases e : P i with
    | false => rfl
    | true => rw [anyN_yes hi e] at h; cases h
  · exact anyN_no
theorem trok_of {f : Nat} {ks : List Kn} {xs : List Int} {fs : List (Int × Int)} (ha : AllR ks xs) (h : FoundP 6 ks.length (trP f ks xs) 4 fs) : fs = [] ↔ TrOk f ks := by
  have key : ∀ j, (∀ q, q < 6 → trP f ks xs q j = false) ↔
      (((kAt ks j).c = 0 → rootP (kAt ks j).n.lv (kAt ks j).n.lo (kAt ks j).n.la (kAt ks j).n.ks.length = true) ∧
      (∀ i, i < (kAt ks j).n.cs.length → strK ks (kAt ks j) i = false ∧ fitK ks (kAt ks j) i = true) ∧
      ((kAt ks j).n.la = false → goesP ks (kAt ks j).n.lv (kAt ks j).n.nx (kAt ks j).n.hi = true) ∧
      ((kAt ks j).c ≠ 0 → leastN (kAt ks j).n.lv f ≤ (kAt ks j).n.ks.length) ∧ Rch ks (kAt ks j).c) := fun j => by
    have hin : cin xs (kAt ks j).c ≠ 0 ↔ Rch ks (kAt ks j).c := by
      rw [← ha.2]
      unfold cin
      rw [Ne, List.countP_eq_zero]
      constructor
      · intro h
        apply Classical.byContradiction
        intro h2
        exact h (fun a h3 h4 => h2 (by rw [← of_decide_eq_true h4]; exact h3))
      · intro h h2
        exact h2 _ h (decide_eq_true rfl)
    constructor
    · intro h
      have h0 := h 0 (by omega)
      have h1 := h 1 (by omega)
      have h2 := h 2 (by omega)
      have h3 := h 3 (by omega)
      have h4 := h 4 (by omega)
      have h5 := h 5 (by omega)
      unfold trP at h0 h1 h2 h3 h4 h5
      rw [if_pos rfl] at h0
      rw [if_neg (by decide), if_pos rfl, anyN_false] at h1
      rw [if_neg (by decide), if_neg (by decide), if_pos rfl, anyN_false] at h2
      rw [if_neg (by decide), if_neg (by decide), if_neg (by decide), if_pos rfl] at h3
      rw [if_neg (by decide), if_neg (by decide), if_neg (by decide), if_neg (by decide), if_pos rfl] at h4
      rw [if_neg (by decide), if_neg (by decide), if_neg (by decide), if_neg (by decide), if_neg (by decide), decide_eq_false_iff_not] at h5
      refine ⟨fun e => ?_, fun i hi => ⟨h1 i hi, ?_⟩, fun e => ?_, fun e => ?_, hin.1 h5⟩
      · rw [decide_eq_true e] at h0
        simpa using h0
      · have := h2 i hi
        unfold misK at this
        rw [h1 i hi] at this
        simpa using this
      · rw [e] at h3
        simpa using h3
      · rw [decide_eq_true e] at h4
        simpa using h4
    · rintro ⟨h0, h1, h3, h4, h5⟩ q hq
      unfold trP
      rcases (show q = 0 ∨ q = 1 ∨ q = 2 ∨ q = 3 ∨ q = 4 ∨ q = 5 by omega) with rfl | rfl | rfl | rfl | rfl | rfl
      · rw [if_pos rfl]
        by_cases e : (kAt ks j).c = 0
        · rw [h0 e]; simp
        · simp [e]
      · rw [if_neg (by decide), if_pos rfl, anyN_false]
        exact fun i hi => (h1 i hi).1
      · rw [if_neg (by decide), if_neg (by decide), if_pos rfl, anyN_false]
        intro i hi
        unfold misK
        rw [(h1 i hi).2]
        simp
      · rw [if_neg (by decide), if_neg (by decide), if_neg (by decide), if_pos rfl]
        cases e : (kAt ks j).n.la with
        | true => rfl
        | false => rw [h3 e]; rfl
      · rw [if_neg (by decide), if_neg (by decide), if_neg (by decide), if_neg (by decide), if_pos rfl]
        by_cases e : (kAt ks j).c = 0
        · simp [e]
        · have := h4 e
          simp only [Bool.and_eq_false_iff, decide_eq_false_iff_not]
          exact Or.inr (by omega)
      · rw [if_neg (by decide), if_neg (by decide), if_neg (by decide), if_neg (by decide), if_neg (by decide), decide_eq_false_iff_not]
        exact hin.2 h5
  constructor
  · intro he j hj
    refine (key j).1 (fun q hq => ?_)
    cases e : trP f ks xs q j with
    | false => rfl
    | true => exact absurd he (h.2 ⟨q, j, hq, hj, e⟩)
  · intro hk
    cases fs with
    | nil => rfl
    | cons x l =>
      obtain ⟨q, j, hq, hj, hp, _⟩ := h.1 x (List.mem_cons_self ..)
      rw [(key j).2 (hk j hj) q hq] at hp
      cases hp
/-- No flaw of a tree, but that nodes may be thin. -/
def TrE (ks : List Kn) : Prop := ∀ j, j < ks.length →
  ((kAt ks j).c = 0 → rootP (kAt ks j).n.lv (kAt ks j).n.lo (kAt ks j).n.la (kAt ks j).n.ks.length = true) ∧
  (∀ i, i < (kAt ks j).n.cs.length → strK ks (kAt ks j) i = false ∧ fitK ks (kAt ks j) i = true) ∧
  ((kAt ks j).n.la = false → goesP ks (kAt ks j).n.lv (kAt ks j).n.nx (kAt ks j).n.hi = true) ∧ Rch ks (kAt ks j).c
theorem TrOk.e {f : Nat} {ks : List Kn} (h : TrOk f ks) : TrE ks := fun j hj => ⟨(h j hj).1, (h j hj).2.1, (h j hj).2.2.1, (h j hj).2.2.2.2⟩
theorem tre_of {f : Nat} {ks : List Kn} {xs : List Int} {fs : List (Int × Int)} (ha : AllR ks xs) (h : FoundP 6 ks.length (trP f ks xs) 4 fs) (ht : TrE ks) : ∀ x ∈ fs, x.1 = 8 := by
  intro x hx
  obtain ⟨q, j, hq, hj, hp, e⟩ := h.1 x hx
  obtain ⟨h0, h1, h3, h5⟩ := ht j hj
  rcases (show q = 0 ∨ q = 1 ∨ q = 2 ∨ q = 3 ∨ q = 4 ∨ q = 5 by omega) with rfl | rfl | rfl | rfl | rfl | rfl
  · exfalso
    unfold trP at hp
    rw [if_pos rfl] at hp
    simp only [Bool.and_eq_true, decide_eq_true_eq, Bool.not_eq_true'] at hp
    rw [h0 hp.1] at hp
    cases hp.2
  · exfalso
    have : trP f ks xs 1 j = false := by
      unfold trP
      rw [if_neg (by decide), if_pos rfl, anyN_false]
      exact fun i hi => (h1 i hi).1
    rw [this] at hp
    cases hp
  · exfalso
    have : trP f ks xs 2 j = false := by
      unfold trP
      rw [if_neg (by decide), if_neg (by decide), if_pos rfl, anyN_false]
      intro i hi
      unfold misK
      rw [(h1 i hi).2]
      simp
    rw [this] at hp
    cases hp
  · exfalso
    unfold trP at hp
    rw [if_neg (by decide), if_neg (by decide), if_neg (by decide), if_pos rfl] at hp
    cases e2 : (kAt ks j).n.la with
    | true => rw [e2] at hp; cases hp
    | false => rw [e2, h3 e2] at hp; cases hp
  · simpa using e
  · exfalso
    unfold trP at hp
    rw [if_neg (by decide), if_neg (by decide), if_neg (by decide), if_neg (by decide), if_neg (by decide), decide_eq_true_eq] at hp
    have h2 := (ha.2 _).2 h5
    unfold cin at hp
    exact absurd hp (Nat.ne_of_gt (List.countP_pos_iff.2 ⟨_, h2, decide_eq_true rfl⟩))
end Go.Proofs.Ytgaacoeggikbpaa

namespace Go.Proofs.Ytgaacoeggikbpaa
open Go.RowKit Go.Maps Go.Shelf
attribute [local go_sem] Oper.semAt_some

/-- Between two cells that are reached. -/
structure TI (w0 wS A : World) (G3 G5 G6 bn bp b n N f : Nat) (ks : List Kn) (pre : List Int) : Prop where
  t : TrAt w0 A G5 bn bp n N ks
  g3 : BX A G3 3 #[.int .i64 (f : Nat)]
  g6 : BX A G6 53 #[.map (some b)]
  im : IM A b pre.length (fun c => cin pre c)
  bl : Below wS.heap.size wS A
theorem TI.below {w0 wS A C : World} {G3 G5 G6 bn bp b n N f B : Nat} {ks : List Kn} {pre : List Int} (h : TI w0 wS A G3 G5 G6 bn bp b n N f ks pre) (hlt : G3 < B ∧ G5 < B ∧ G6 < B ∧ bn < B ∧ bp < B ∧ b < B ∧ wS.heap.size ≤ B) (hb : Below B A C) : TI w0 wS C G3 G5 G6 bn bp b n N f ks pre :=
  ⟨⟨(hb.block _ hlt.2.1).trans h.t.b, h.t.nm.block (hb.block _ hlt.2.2.2.1), h.t.im.block (hb.block _ hlt.2.2.2.2.1)⟩, (hb.block _ hlt.1).trans h.g3, (hb.block _ hlt.2.2.1).trans h.g6, h.im.block (hb.block _ hlt.2.2.2.2.2.1), h.bl.trans (hb.mono hlt.2.2.2.2.2.2)⟩
theorem FlV.mono {w : World} {B B' : Nat} {v : Value} {fs : List (Int × Int)} (h : FlV w B v fs) (hB : B' ≤ B) : FlV w B' v fs := by
  refine ⟨h.1, ?_⟩
  rcases h.2 with h2 | ⟨g, c, cur, e, h1, h3⟩
  · exact Or.inl h2
  · exact Or.inr ⟨g, c, cur, e, Nat.le_trans hB h1, h3⟩
/-- The numbers that have come. -/
def vals (pre : List I64w) : List Int := pre.map (·.1)
theorem vals_len (pre : List I64w) : (vals pre).length = pre.length := List.length_map ..
theorem vals_snoc (pre : List I64w) (x : I64w) : vals (pre ++ [x]) = vals pre ++ [x.1] := List.map_append ..
theorem TI.turn {w0 wS A C : World} {G3 G5 G6 bn bp b n N f : Nat} {ks : List Kn} {pre pre' : List Int} (h : TI w0 wS A G3 G5 G6 bn bp b n N f ks pre) (hne : bn ≠ b ∧ bp ≠ b) (hB : wS.heap.size ≤ b) (ht : Turn (fun j => j = b) A C) (hm : IM C b pre'.length (fun c => cin pre' c)) : TI w0 wS C G3 G5 G6 bn bp b n N f ks pre' :=
  ⟨⟨bx_off h.t.b h.im.nocells ht, h.t.nm.block (ht.block bn h.t.nm.lt hne.1), h.t.im.block (ht.block bp h.t.im.lt hne.2)⟩, bx_off h.g3 h.im.nocells ht, bx_off h.g6 h.im.nocells ht, hm, h.bl.trans (ht.below (fun j e => by rw [show j = b from e]; exact hB) h.bl.size)⟩
set_option maxHeartbeats 8000000 in
set_option maxRecDepth 100000 in
theorem flawsOfTree_all (w0 : World) (ao : Option Addr) (n c : Nat) (ks : List Kn) (f : Nat) (w : World) (hb0 : Below w0.heap.size w0 w) (h : KsAt (PV w0) w (.slice ao n c) ks) (hn : n ≤ 1000000) (hf : f ≤ 64) (hfit : ∀ j, j < n → (kAt ks j).n.cs.length ≤ 80 ∧ WfK (kAt ks j) ∧ KidK (kAt ks j)) (hone : ∀ i, i < n → kfind (ks.take i) (kAt ks i).c = none) :
    Calls Try.prog 24 #[.slice ao n c, .int .i64 (f : Nat)] w fun e w' => (∃ v fs, e = .returned v ∧ FlV w' w.heap.size v fs ∧ (fs = [] ↔ TrOk f ks) ∧ (TrE ks → ∀ x ∈ fs, x.1 = 8)) ∧ Below w.heap.size w w' := by
  have hmk : ∀ W, (Instr.makeMap 53 none).run Try.prog W = .ok (.map (some W.heap.size)) (W.alloc (.map #[] 0)) := fun W => run_makeMap _ W
  have hx1 := boxed_below w (.cells #[.int .i64 (f : Nat)] 3)
  have n1 := BX.new w 3 #[.int .i64 (f : Nat)]
  obtain ⟨G3, hG3⟩ : ∃ g, g = w.heap.size := ⟨_, rfl⟩
  rw [← hG3] at n1
  obtain ⟨W1, hW1⟩ : ∃ W, W = w.alloc (.cells #[.int .i64 (f : Nat)] 3) := ⟨_, rfl⟩
  rw [← hW1] at hx1 n1
  have HC1 := Lib.hid (treeOf_any w0 ao n c ks W1 (hb0.trans (hx1.mono hb0.size)) (h.keep hx1) hn (fun j hj => ⟨(hfit j hj).1, (hfit j hj).2.1⟩) hone)
  have HK := Lib.hid h
  have H0 := Lib.hid hb0
  have HFIT := Lib.hid hfit
  have hl := h.len
  have HL := Lib.hid hl.1
  have hl2 := hl.2
  have HX1 := Lib.hid (show Below w.heap.size w W1 ∧ BX W1 G3 3 #[.int .i64 (f : Nat)] from ⟨hx1, n1⟩)
  have HG3 := Lib.hid hG3
  have HW1 := Lib.hid hW1
  clear h hb0 hfit hone hl hx1 n1 hG3 hW1
  refine (callsIn_wide (n := 3)).1 ?_
  refine callsIn_of_wp_marks Try.func24 rfl trivial ?_ rfl
  simp only [Try.ntmps24, List.size_toArray, List.length_cons, List.length_nil, Nat.reduceAdd, Nat.reduceSub, Array.replicate_succ, Array.replicate_zero, List.push_toArray, List.append_toArray, List.nil_append, List.cons_append]
  gi_wp2
  refine ⟨trivial, ?_⟩
  rw [← HW1.out]
  refine (callsIn_wide.2 HC1.out).mono ?_
  rintro e w2 ⟨⟨bn, bp, N, rfl, hnm, him⟩, hb2⟩
  rw [← HG3.out]
  have b3 := boxed_below w2 (.cells #[.map (some bn), .map (some bp)] 55)
  have x3 := BX.new w2 55 #[.map (some bn), .map (some bp)]
  obtain ⟨W3, hW3⟩ : ∃ W, W = w2.alloc (.cells #[.map (some bn), .map (some bp)] 55) := ⟨_, rfl⟩
  have s3 : W3.heap.size = w2.heap.size + 1 := by rw [hW3]; exact World.size_alloc _ _
  rw [← hW3] at b3 x3
  have b4 := boxed_below W3 (.map #[] 0)
  have m4 := IM.made W3
  obtain ⟨W4, hW4⟩ : ∃ W, W = W3.alloc (.map #[] 0) := ⟨_, rfl⟩
  have s4 : W4.heap.size = w2.heap.size + 1 + 1 := by rw [hW4, World.size_alloc, s3]
  rw [← hW4] at b4 m4
  rw [s3] at m4
  obtain ⟨b, hb⟩ : ∃ b, b = w2.heap.size + 1 := ⟨_, rfl⟩
  rw [← hb] at m4
  have b5 := boxed_below W4 (.cells #[.map (some b)] 53)
  have x5 := BX.new W4 53 #[.map (some b)]
  obtain ⟨W5, hW5⟩ : ∃ W, W = W4.alloc (.cells #[.map (some b)] 53) := ⟨_, rfl⟩
  have s5 : W5.heap.size = w2.heap.size + 1 + 1 + 1 := by rw [hW5, World.size_alloc, s4]
  rw [← hW5] at b5 x5
  have b6 := boxed_below W5 (.cells #[.map (some bn), .map (some bp)] 55)
  have x6 := BX.new W5 55 #[.map (some bn), .map (some bp)]
  obtain ⟨W6, hW6⟩ : ∃ W, W = W5.alloc (.cells #[.map (some bn), .map (some bp)] 55) := ⟨_, rfl⟩
  have s6 : W6.heap.size = w2.heap.size + 1 + 1 + 1 + 1 := by rw [hW6, World.size_alloc, s5]
  rw [← hW6] at b6 x6
  obtain ⟨G5, hG5⟩ : ∃ g, g = w2.heap.size := ⟨_, rfl⟩
  obtain ⟨G6, hG6⟩ : ∃ g, g = w2.heap.size + 1 + 1 := ⟨_, rfl⟩
  obtain ⟨G7, hG7⟩ : ∃ g, g = w2.heap.size + 1 + 1 + 1 := ⟨_, rfl⟩
  rw [s5, ← hG7] at x6
  rw [s4, ← hG6] at x5
  rw [← hG5] at x3
  have b36 := (b4.trans (b5.mono b4.size)).trans (b6.mono (Nat.le_trans b4.size b5.size))
  have b26 := b3.trans (b36.mono b3.size)
  have bw2 := HX1.out.1.trans (hb2.mono HX1.out.1.size)
  have bw6 := bw2.trans (b26.mono bw2.size)
  have hti : TI w0 w W6 G3 G5 G6 bn bp b n N f ks [] := ⟨⟨x3.below b36, hnm.keep b26, him.keep b26⟩, (HX1.out.2.below hb2).below b26, x5.below b6, (m4.keep b5).keep b6, bw6⟩
  have hlt : G3 < W6.heap.size ∧ G5 < W6.heap.size ∧ G6 < W6.heap.size ∧ bn < W6.heap.size ∧ bp < W6.heap.size ∧ b < W6.heap.size ∧ w.heap.size ≤ W6.heap.size := by
    have h1 := hnm.lt
    have h2 := him.lt
    have h3 := lt_of_block (HX1.out.2.below hb2)
    have h4 := bw2.size
    omega
  have hkm : ∀ k ∈ ks, ∃ j, j < n ∧ kAt ks j = k := fun k hk => by
    obtain ⟨j, hj, e⟩ := List.getElem_of_mem hk
    exact ⟨j, by rw [HL.out]; exact hj, by rw [kAt_eq hj]; exact e⟩
  have hwf : ∀ x ∈ kids ks, (Lit.int .i64 x).wf = true := fun x hx => by
    obtain ⟨k, hk, hxk⟩ := List.mem_flatMap.1 hx
    obtain ⟨j, hj, rfl⟩ := hkm k hk
    exact (HFIT.out j hj).2.1.cs x hxk
  have h80 : ∀ c, (nk ks c).length ≤ 80 := fun c => by
    unfold nk nodOf
    cases hk : kfind ks c with
    | none => exact Nat.zero_le _
    | some k =>
      unfold kfind at hk
      obtain ⟨j, hj, rfl⟩ := hkm k (List.mem_of_find?_eq_some hk)
      exact (HFIT.out j hj).1
  have hkl : (kids ks).length ≤ 80000000 := by
    have h1 := kids_len (ks := ks) (i := ks.length) (Nat.le_refl _) (fun j hj => (HFIT.out j (by rw [HL.out]; exact hj)).1)
    rw [List.take_length] at h1
    have := HL.out
    omega
  have hw06 : Below w0.heap.size w0 W6 := H0.out.trans (bw6.mono H0.out.size)
  have hs0 := H0.out.size
  have hnb : bn ≠ b := by have := hnm.lt; omega
  have hpb : bp ≠ b := by have := him.lt; omega
  have hseq := reached_seq 2 (by decide) G7 bn bp n N b ks w0 W6 ⟨x6, hnm.keep b26, him.keep b26⟩ hw06 hlt.2.2.2.2.2.1 (by omega) hnb (by have := bw2.size; omega) hwf h80 hkl
  have HSEQ := Lib.hid hseq
  have HTI := Lib.hid hti
  have HLT := Lib.hid hlt
  have HNB := Lib.hid (show bn ≠ b ∧ bp ≠ b ∧ Below w0.heap.size w0 W6 ∧ w.heap.size ≤ b from ⟨hnb, hpb, hw06, by have := bw2.size; omega⟩)
  have HKL := Lib.hid hkl
  have t0 : W5.cell? ⟨G5, 0, none⟩ = some (.map (some bn)) := ((x3.below b4).below b5).cell 0 rfl
  have t1 : W5.cell? ⟨G5, 1, none⟩ = some (.map (some bp)) := ((x3.below b4).below b5).cell 1 rfl
  have HR := Lib.hid (reachedIt_any (some bn) (some bp) W5)
  have HS := Lib.hid (show G6 = w2.heap.size + 1 + 1 ∧ b = w2.heap.size + 1 ∧ G5 = w2.heap.size ∧ W5.heap.size = G7 from ⟨hG6, hb, hG5, by rw [s5, hG7]⟩)
  have HWS := Lib.hid (show W3 = _ ∧ W4 = _ ∧ W5 = _ ∧ W6 = _ from ⟨hW3, hW4, hW5, hW6⟩)
  clear b3 x3 hW3 s3 b4 m4 hW4 s4 hb b5 x5 hW5 s5 b6 x6 hW6 s6 hG5 hG6 hG7 b36 b26 bw2 bw6 hti hlt hkm hwf h80 hkl hw06 hs0 hnb hpb hseq hnm him hb2
  gi_wp2
  refine ⟨trivial, ?_⟩
  rw [← HS.out.1, ← HS.out.2.1, ← HS.out.2.2.1, ← HWS.out.1, ← HWS.out.2.1, ← HWS.out.2.2.1]
  refine (callsIn_wide.2 HR.out).mono ?_
  rintro e w7 ⟨rfl, rfl⟩
  rw [HS.out.2.2.2, ← HWS.out.2.2.2]
  clear t0 t1 hmk
  gi_wp2
  refine range_goes rfl (by decide) (gf := 73) (lb := #[.pointer (some ⟨G7, 0, none⟩)]) rfl trivial (enters_of Try.func73 (by kernel_rfl) rfl) HSEQ.out (fun h k => h.trans k) (fun W l o o' _ h h1 h2 => Kept.put W l o o' h h1 h2) (fun _ => rfl)
    (fun (pre : List I64w) A => TI w0 w A G3 G5 G6 bn bp b n N f ks (vals pre)) (fun s A C h hb => h.below HLT.out hb) HTI.out
    (fun x => { tmps := #[.slice ao n c, .int .i64 (f : Nat), undef, .pointer (some ⟨G3, 0, none⟩), .slice none 0 0, .pointer (some ⟨G5, 0, none⟩), .pointer (some ⟨G6, 0, none⟩), .int .i64 x.1, .slice ao n c, .agg #[.map (some bn), .map (some bp)], .map (some b), .agg #[.map (some bn), .map (some bp)], .func (.func 73) #[] #[.pointer (some ⟨G7, 0, none⟩)], .int .i64 x.1, undef, undef, undef, undef, undef, undef, undef, undef, undef, undef, undef, undef, undef, undef, undef, undef, undef, undef], defers := [] }) ?assign ?body ?done
  case assign =>
    intro l x W K hK
    gi_wp2
    exact hK
  case body =>
    rintro l pre x A hA _ hlen
    have m0 : A.cell? ⟨G6, 0, none⟩ = some (.map (some b)) := hA.g6.cell 0 rfl
    have hlook := hA.im.look x.2
    obtain ⟨z, hz⟩ : ∃ z, z = cin (vals pre) x.1 := ⟨_, rfl⟩
    have hzi : z ≤ 80000001 := by
      have h1 := cin_le (vals pre) x.1
      rw [vals_len] at h1
      have h2 := HKL.out
      omega
    have hzi' : (z : Int) ≤ 80000001 := by omega
    have hz0 : (0 : Int) ≤ z := by omega
    have hpl : pre.length ≤ 80000001 := by have h2 := HKL.out; omega
    rw [← hz] at hlook
    obtain ⟨C, hrun, hm5, ht5⟩ := hA.im.store (by rw [vals_len]; omega) x.2 (z + 1) (by omega)
    rw [show (((z + 1 : Nat)) : Int) = (z : Int) + 1 by omega] at hrun
    have HE := Lib.hid (show KeepsFrom W6.heap.size A C ∧ Kept b A C ∧ TI w0 w C G3 G5 G6 bn bp b n N f ks (vals (pre ++ [x])) from
      ⟨⟨ht5.size, fun k o hk ho _ => (ht5.block k (Array.getElem?_eq_some_iff.1 ho).1 (fun e => by have := HLT.out; omega)).trans ho⟩, ⟨ht5.size, fun k o hk ho _ => (ht5.block k (Array.getElem?_eq_some_iff.1 ho).1 hk).trans ho⟩,
        hA.turn ⟨HNB.out.1, HNB.out.2.1⟩ HNB.out.2.2.2 ht5 (by
          rw [vals_snoc, List.length_append, List.length_singleton, cin_more, ← hz]
          exact hm5)⟩)
    obtain ⟨xv, hxv⟩ := x
    clear hA hz hm5 ht5 hlen
    gi_wp2
    exact HE.out
  case done =>
    rintro D ys W hD hS hTI hK
    have hx := boxed_below W (.cells #[.int .i64 4, .func (.func 45) #[] #[], .int .i64 5, .func (.func 47) #[] #[.pointer (some ⟨G5, 0, none⟩)], .int .i64 6, .func (.func 51) #[] #[.pointer (some ⟨G5, 0, none⟩)], .int .i64 7, .func (.func 54) #[] #[.pointer (some ⟨G5, 0, none⟩)], .int .i64 8, .func (.func 56) #[] #[.pointer (some ⟨G3, 0, none⟩)], .int .i64 9, .func (.func 58) #[] #[.pointer (some ⟨G6, 0, none⟩)]] 76)
    have n9 := BX.new W 76 #[.int .i64 4, .func (.func 45) #[] #[], .int .i64 5, .func (.func 47) #[] #[.pointer (some ⟨G5, 0, none⟩)], .int .i64 6, .func (.func 51) #[] #[.pointer (some ⟨G5, 0, none⟩)], .int .i64 7, .func (.func 54) #[] #[.pointer (some ⟨G5, 0, none⟩)], .int .i64 8, .func (.func 56) #[] #[.pointer (some ⟨G3, 0, none⟩)], .int .i64 9, .func (.func 58) #[] #[.pointer (some ⟨G6, 0, none⟩)]]
    obtain ⟨RB, hRB⟩ : ∃ g, g = W.heap.size := ⟨_, rfl⟩
    rw [← hRB] at n9
    obtain ⟨W9, hW9⟩ : ∃ V, V = W.alloc (.cells #[.int .i64 4, .func (.func 45) #[] #[], .int .i64 5, .func (.func 47) #[] #[.pointer (some ⟨G5, 0, none⟩)], .int .i64 6, .func (.func 51) #[] #[.pointer (some ⟨G5, 0, none⟩)], .int .i64 7, .func (.func 54) #[] #[.pointer (some ⟨G5, 0, none⟩)], .int .i64 8, .func (.func 56) #[] #[.pointer (some ⟨G3, 0, none⟩)], .int .i64 9, .func (.func 58) #[] #[.pointer (some ⟨G6, 0, none⟩)]] 76) := ⟨_, rfl⟩
    rw [← hW9] at hx n9
    have hbl9 := hTI.bl.trans (hx.mono hTI.bl.size)
    have hT9 := hTI.t.keep hx
    have h39 := hTI.g3.below hx
    have h69 := hTI.g6.below hx
    have him9 := hTI.im.keep hx
    have hC := found6_any w0 ao n c RB G3 G5 G6 ks (trP f ks (vals ys)) W9 (H0.out.trans (hbl9.mono H0.out.size)) (HK.out.keep hbl9) hn n9
      (fun j V v hj hb hv => by
        rw [show trP f ks (vals ys) 0 j = _ from by unfold trP; rw [if_pos rfl]]
        exact fot1_any (kAt ks j) v V hv)
      (fun j V v hj hb hv => by
        rw [show trP f ks (vals ys) 1 j = _ from by unfold trP; rw [if_neg (by decide), if_pos rfl]]
        exact fot2_any w0 G5 bn bp n N ks (kAt ks j) v V (hT9.keep hb) hv (HFIT.out j hj).2.1 (HFIT.out j hj).2.2)
      (fun j V v hj hb hv => by
        rw [show trP f ks (vals ys) 2 j = _ from by unfold trP; rw [if_neg (by decide), if_neg (by decide), if_pos rfl]]
        exact fot3_any w0 G5 bn bp n N ks (kAt ks j) v V (hT9.keep hb) hv (HFIT.out j hj).2.1 (HFIT.out j hj).2.2)
      (fun j V v hj hb hv => by
        rw [show trP f ks (vals ys) 3 j = _ from by unfold trP; rw [if_neg (by decide), if_neg (by decide), if_neg (by decide), if_pos rfl]]
        exact fot4_any w0 G5 bn bp n N ks (kAt ks j) v V (hT9.keep hb) hv (HFIT.out j hj).2.1)
      (fun j V v hj hb hv => by
        rw [show trP f ks (vals ys) 4 j = _ from by unfold trP; rw [if_neg (by decide), if_neg (by decide), if_neg (by decide), if_neg (by decide), if_pos rfl]]
        exact fot5_any G3 f (kAt ks j) v V (h39.below hb) hf hv)
      (fun j V v hj hb hv => by
        rw [show trP f ks (vals ys) 5 j = _ from by unfold trP; rw [if_neg (by decide), if_neg (by decide), if_neg (by decide), if_neg (by decide), if_neg (by decide)]]
        exact fot6_any G6 b _ (fun c => cin (vals ys) c) (kAt ks j) v V (h69.below hb) (him9.keep hb) hv (HFIT.out j hj).2.1)
    have HC := Lib.hid hC
    have HA := Lib.hid (show AllR ks (vals ys) from hS)
    have hKlt : D < W.heap.size := (Array.getElem?_eq_some_iff.1 hK).1
    have HK9 := Lib.hid ((hx.block D hKlt).trans hK)
    have HBL := Lib.hid hbl9
    have HD := Lib.hid (show w.heap.size ≤ D ∧ D < W9.heap.size from ⟨by have := HLT.out; omega, by have := hx.size; omega⟩)
    have HW9 := Lib.hid (show RB = W.heap.size ∧ _ from ⟨hRB, hW9⟩)
    clear hx n9 hRB hW9 hbl9 hT9 h39 h69 him9 hC hKlt hTI hS hD hK
    gi_wp2
    refine ⟨trivial, ?_⟩
    rw [← HW9.out.1, ← HW9.out.2]
    refine (callsIn_wide.2 HC.out).mono ?_
    rintro e w8 ⟨⟨v, fs, rfl, hfv, hfd⟩, hb8⟩
    have hfd2 : FoundP 6 ks.length (trP f ks (vals ys)) 4 fs := by have h := hfd.1; rw [HL.out] at h; exact h
    have hK8 := (hb8.block D HD.out.2).trans HK9.out
    have hbb := HBL.out.trans (hb8.mono HBL.out.size)
    have HE := Lib.hid (show FlV w8 w.heap.size v fs ∧ ((fs = [] ↔ TrOk f ks) ∧ (TrE ks → ∀ x ∈ fs, x.1 = 8)) ∧ Below w.heap.size w w8 from ⟨hfv.mono HBL.out.size, ⟨trok_of HA.out hfd2, tre_of HA.out hfd2⟩, hbb⟩)
    clear hfv hfd hfd2 hb8 hbb
    gi_wp2
    refine ⟨by simp, .inl ⟨_, _, rfl, run_takeDeferred hK8, ?_⟩⟩
    exact ⟨_, results_tmp rfl _ _ _, ⟨v, fs, rfl, ownsRow_putObj HE.out.1 _ hK8 rfl, HE.out.2.1⟩, HE.out.2.2.trans (belowK_b (w := w) (Nat.le_refl _) w8 D _ _ HD.out.1 hK8 rfl rfl)⟩
theorem flawsOfTree_any (w0 : World) (ao : Option Addr) (n c : Nat) (ks : List Kn) (f : Nat) (w : World) (hb0 : Below w0.heap.size w0 w) (h : KsAt (PV w0) w (.slice ao n c) ks) (hn : n ≤ 1000000) (hf : f ≤ 64) (hfit : ∀ j, j < n → (kAt ks j).n.cs.length ≤ 80 ∧ WfK (kAt ks j) ∧ KidK (kAt ks j)) (hone : ∀ i, i < n → kfind (ks.take i) (kAt ks i).c = none) :
    Calls Try.prog 24 #[.slice ao n c, .int .i64 (f : Nat)] w fun e w' => (∃ v fs, e = .returned v ∧ FlV w' w.heap.size v fs ∧ (fs = [] ↔ TrOk f ks)) ∧ Below w.heap.size w w' :=
  (flawsOfTree_all w0 ao n c ks f w hb0 h hn hf hfit hone).mono (fun e w' hp => by
    obtain ⟨⟨v, fs, h1, h2, h3, _⟩, h4⟩ := hp
    exact ⟨⟨v, fs, h1, h2, h3⟩, h4⟩)
end Go.Proofs.Ytgaacoeggikbpaa

namespace Go.Proofs.Ytgaacoeggikbpaa
open Go.RowKit

theorem empty_any (w : World) : Calls Try.prog 11 #[] w fun e w' => e = .returned (.agg #[.int .i64 0, .string ⟨#[]⟩, .string ⟨#[]⟩, .bool true, .int .i64 (-1), .slice none 0 0, .slice none 0 0, .slice none 0 0]) ∧ Below w.heap.size w w' := by
  go_enter Try.func11, Try.ntmps11
  go_wp2
  refine bodyPost_ret (v := .agg #[.int .i64 0, .string ⟨#[]⟩, .string ⟨#[]⟩, .bool true, .int .i64 (-1), .slice none 0 0, .slice none 0 0, .slice none 0 0]) (by simp [results, Try.results11, go_sem, *]) rfl ⟨rfl, ?_⟩
  exact (one_alloc w _).2

theorem empty_nd (w : World) : NdAt w none none none 0 0 0 0 0 0 [] [] [] := ⟨Rd.nil w, Rd.nil w, Rd.nil w⟩
theorem empty_sound : SoundP 0 (-1) ⟨#[]⟩ ⟨#[]⟩ true 0 0 0 [] [] 4 := by
  refine ⟨by omega, ⟨by decide, fun _ => ⟨rfl, rfl⟩, fun h => (by cases h)⟩, ⟨by omega, fun i hi => (by simp at hi), fun i hi => absurd hi (Nat.not_lt_zero _)⟩, fun _ => ⟨rfl, rfl, fun i hi => absurd hi (Nat.not_lt_zero _)⟩, fun h => absurd rfl h⟩

end Go.Proofs.Ytgaacoeggikbpaa

namespace Go.Proofs.Ytgaacoeggikbpaa
open Go.RowKit Go.Maps

theorem empty_soundF {fan : Int} (h : 0 ≤ fan) : SoundP 0 (-1) ⟨#[]⟩ ⟨#[]⟩ true 0 0 0 [] [] fan :=
  ⟨empty_sound.level, empty_sound.range, ⟨by simpa using h, empty_sound.keys.rise, empty_sound.keys.inn⟩, empty_sound.entries⟩
/-- Nodes are a tree as it should be. -/
def WholeP (fan : Int) (ks : List Kn) : Prop := (4 ≤ fan ∧ fan ≤ 64) ∧ NdOk fan ks ∧ TrOk fan.toNat ks
theorem NdOk.kid {fan : Int} {ks : List Kn} (h : NdOk fan ks) {j : Nat} (hj : j < ks.length) (hf : FitN (kAt ks j).n) : KidK (kAt ks j) := by
  have hs := ((soundB_iff fan (kAt ks j).n).1 (h.2 j hj).2.2).2
  refine ⟨hs.level, ?_, hf.ks⟩
  by_cases e : (kAt ks j).n.lv = 0
  · rw [(hs.entries.leaf e).2.1]
    exact Nat.zero_le _
  · exact Nat.le_of_eq (hs.entries.inner e).1
theorem NdOk.one {fan : Int} {ks : List Kn} (h : NdOk fan ks) {i : Nat} (hi : i < ks.length) : kfind (ks.take i) (kAt ks i).c = none := by
  have h1 := (h.2 i hi).2.1
  cases hk : kfind (ks.take i) (kAt ks i).c with
  | none => rfl
  | some k =>
    exfalso
    unfold kfind at hk
    have h2 := List.mem_of_find?_eq_some hk
    have h3 := List.find?_some hk
    have h4 : 0 < (ks.take i).countP (fun k => decide (k.c = (kAt ks i).c)) := List.countP_pos_iff.2 ⟨k, h2, h3⟩
    have h5 : cnt (ks.take (i + 1)) (kAt ks i).c = cnt (ks.take i) (kAt ks i).c + 1 := by
      have := congrFun (cnt_more hi) (kAt ks i).c
      simpa using this
    have h6 : cnt (ks.take (i + 1)) (kAt ks i).c ≤ cnt ks (kAt ks i).c := by
      unfold cnt
      exact (List.take_sublist _ _).countP_le
    unfold cnt at h5 h6 h1
    omega
theorem NdOk.some {fan : Int} {ks : List Kn} (h : NdOk fan ks) : 4 ≤ fan ∧ fan ≤ 64 := by
  have h1 := h.1
  unfold cnt at h1
  obtain ⟨k, hk, _⟩ := List.countP_pos_iff.1 h1
  obtain ⟨j, hj, rfl⟩ := List.getElem_of_mem hk
  exact ((soundB_iff fan (kAt ks j).n).1 (h.2 j hj).2.2).1
set_option maxHeartbeats 4000000 in
set_option maxRecDepth 100000 in
theorem flaws_all (w0 : World) (ao : Option Addr) (n c : Nat) (ks : List Kn) (fan : Int) (w : World) (hb0 : Below w0.heap.size w0 w) (h : KsAt (PV w0) w (.slice ao n c) ks) (hn : n ≤ 1000000) (hfit : ∀ j, j < n → FitN (kAt ks j).n ∧ WfK (kAt ks j)) :
    Calls Try.prog 10 #[.slice ao n c, .int .i64 fan] w fun e w' => (∃ v fs, e = .returned v ∧ FlV w' w.heap.size v fs ∧ (fs = [] ↔ WholeP fan ks) ∧ (4 ≤ fan ∧ fan ≤ 64 → (NdOk fan ks → TrE ks → ∀ x ∈ fs, x.1 = 8) ∧ (ks = [] → fs = [(1, 0)]))) ∧ Below w.heap.size w w' := by
  have hl := h.len
  have HL := Lib.hid hl.1
  have HE := Lib.hid (fun W => empty_any W)
  obtain ⟨eb, heb⟩ : ∃ eb : Bool, eb = decide (4 ≤ fan ∧ fan ≤ 64) := ⟨_, rfl⟩
  have HEB := Lib.hid heb
  have HC := Lib.hid (fun W => check_of 0 (-1) ⟨#[]⟩ ⟨#[]⟩ true none none none 0 0 0 0 0 0 [] [] [] fan eb W (empty_nd W) ⟨by decide, by decide, (fun x hx => by cases hx), by omega⟩ (by
    rw [heb, decide_eq_true_iff]
    exact ⟨fun h => ⟨h, empty_soundF (by omega)⟩, fun h => h.1⟩))
  have HK := Lib.hid h
  have H0 := Lib.hid hb0
  have HFIT := Lib.hid hfit
  clear h hb0 hfit hl heb
  go_enter Try.func10, Try.ntmps10
  go_wp2_with fail
  refine (HE.out w).mono ?_
  rintro e w1 ⟨rfl, hb1⟩
  have HB1 := Lib.hid hb1
  clear hb1
  go_wp2_with fail
  refine (HC.out w1).mono ?_
  rintro e w2 ⟨z, rfl, hz1, hz2, hb2⟩
  have HB2 := Lib.hid (HB1.out.trans (hb2.mono HB1.out.size))
  clear hb2
  cases eb with
  | false =>
    go_wp2
    go_ret
    have hno : ¬ WholeP fan ks := fun h => by
      have h1 := HEB.out
      rw [decide_eq_true h.1] at h1
      cases h1
    have hfl : FlR (w2.alloc (.cells #[.int .i64 3, .int .i64 0] 47)) w.heap.size w2.heap.size 1 1 [(3, 0)] := ⟨HB2.out.size, rfl, Nat.le_refl _, by decide, #[.int .i64 3, .int .i64 0], heap_alloc_new w2 _, rfl, rfl⟩
    exact ⟨⟨_, [(3, 0)], rfl, hfl.own, ⟨fun h => (by cases h), fun h => absurd h hno⟩, fun hf => absurd (decide_eq_true hf) (by rw [← HEB.out]; decide)⟩, HB2.out.trans ((boxed_below w2 (.cells #[.int .i64 3, .int .i64 0] 47)).mono HB2.out.size)⟩
  | true =>
    have HF := Lib.hid (flawsOfNodes_all w0 ao n c ks fan w2 (H0.out.trans (HB2.out.mono H0.out.size)) (HK.out.keep HB2.out) hn (fun j hj => ⟨(HFIT.out j hj).1, (HFIT.out j hj).2.c⟩))
    go_wp2_with fail
    refine HF.out.mono ?_
    rintro e w3 ⟨⟨v, fs, rfl, hfv, hfd, hfk⟩, hb3⟩
    have HKE := Lib.hid hfk
    have HB3 := Lib.hid (HB2.out.trans (hb3.mono HB2.out.size))
    have HFV := Lib.hid (hfv.mono HB2.out.size)
    have HFD := Lib.hid hfd
    clear hb3 hfd hfk
    rcases hfv.form with ⟨rfl, rfl⟩ | ⟨g, c5, rfl, hr⟩
    · have hok := HFD.out.1 rfl
      obtain ⟨f, hf⟩ : ∃ f : Nat, fan = (f : Int) := ⟨fan.toNat, by have := hok.some; omega⟩
      subst hf
      have HT := Lib.hid (flawsOfTree_all w0 ao n c ks f w3 (H0.out.trans (HB3.out.mono H0.out.size)) (HK.out.keep HB3.out) hn (by have := hok.some; omega) (fun j hj => ⟨(HFIT.out j hj).1.cs, (HFIT.out j hj).2, hok.kid (by rw [← HL.out]; exact hj) (HFIT.out j hj).1⟩) (fun i hi => hok.one (by rw [← HL.out]; exact hi)))
      have HOK := Lib.hid hok
      clear hfv hok
      go_wp2_with fail
      refine HT.out.mono ?_
      rintro e w4 ⟨⟨v4, fs4, rfl, hfv4, hfd4, hfe4⟩, hb4⟩
      have HR := Lib.hid (show FlV w4 w.heap.size v4 fs4 ∧ ((fs4 = [] ↔ WholeP (f : Nat) ks) ∧ (4 ≤ (f : Int) ∧ (f : Int) ≤ 64 → (NdOk (f : Int) ks → TrE ks → ∀ x ∈ fs4, x.1 = 8) ∧ (ks = [] → fs4 = [(1, 0)]))) ∧ Below w.heap.size w w4 from ⟨hfv4.mono HB3.out.size, ⟨hfd4.trans ⟨fun h => ⟨HOK.out.some, HOK.out, h⟩, fun h => h.2.2⟩, fun _ => ⟨fun _ => hfe4, fun e => absurd (HKE.out e) (by decide)⟩⟩, HB3.out.trans (hb4.mono HB3.out.size)⟩)
      clear hfv4 hfd4 hfe4 hb4
      go_wp2
      go_ret
      exact ⟨⟨v4, fs4, rfl, HR.out.1, HR.out.2.1⟩, HR.out.2.2⟩
    · by_cases he : fs = []
      · have hok := HFD.out.1 he
        have HEM := Lib.hid he
        have hfl : fs.length = 0 := by rw [he]; rfl
        obtain ⟨f, hf⟩ : ∃ f : Nat, fan = (f : Int) := ⟨fan.toNat, by have := hok.some; omega⟩
        subst hf
        have HT := Lib.hid (flawsOfTree_all w0 ao n c ks f w3 (H0.out.trans (HB3.out.mono H0.out.size)) (HK.out.keep HB3.out) hn (by have := hok.some; omega) (fun j hj => ⟨(HFIT.out j hj).1.cs, (HFIT.out j hj).2, hok.kid (by rw [← HL.out]; exact hj) (HFIT.out j hj).1⟩) (fun i hi => hok.one (by rw [← HL.out]; exact hi)))
        have HOK := Lib.hid hok
        rw [hfl]
        clear hfv hok hr he HFV hfl
        go_wp2_with fail
        refine HT.out.mono ?_
        rintro e w4 ⟨⟨v4, fs4, rfl, hfv4, hfd4, hfe4⟩, hb4⟩
        have HR := Lib.hid (show FlV w4 w.heap.size v4 fs4 ∧ ((fs4 = [] ↔ WholeP (f : Nat) ks) ∧ (4 ≤ (f : Int) ∧ (f : Int) ≤ 64 → (NdOk (f : Int) ks → TrE ks → ∀ x ∈ fs4, x.1 = 8) ∧ (ks = [] → fs4 = [(1, 0)]))) ∧ Below w.heap.size w w4 from ⟨hfv4.mono HB3.out.size, ⟨hfd4.trans ⟨fun h => ⟨HOK.out.some, HOK.out, h⟩, fun h => h.2.2⟩, fun _ => ⟨fun _ => hfe4, fun e => absurd (HKE.out e) (by rw [HEM.out]; decide)⟩⟩, HB3.out.trans (hb4.mono HB3.out.size)⟩)
        clear hfv4 hfd4 hfe4 hb4
        go_wp2
        go_ret
        exact ⟨⟨v4, fs4, rfl, HR.out.1, HR.out.2.1⟩, HR.out.2.2⟩
      · have HNE := Lib.hid (show ¬ WholeP fan ks from fun h => he (HFD.out.2 h.2.1))
        obtain ⟨m, hm⟩ : ∃ m, m = fs.length := ⟨_, rfl⟩
        have hm0 : 0 < m := by
          rw [hm]
          exact List.length_pos_iff.2 he
        have hm0' : (0 : Int) < m := by omega
        have HFV2 := Lib.hid (show FlV w3 w.heap.size (.slice (some ⟨g, 0, none⟩) m c5) fs by rw [hm]; exact HFV.out)
        rw [← hm]
        have HN2 := Lib.hid he
        clear hfv hr he HFV hm
        go_wp2
        go_ret
        exact ⟨⟨_, fs, rfl, HFV2.out, ⟨fun h => absurd h HN2.out, fun h => absurd h HNE.out⟩, fun _ => ⟨fun h => absurd (HFD.out.2 h) HN2.out, HKE.out⟩⟩, HB3.out⟩
theorem flaws_any (w0 : World) (ao : Option Addr) (n c : Nat) (ks : List Kn) (fan : Int) (w : World) (hb0 : Below w0.heap.size w0 w) (h : KsAt (PV w0) w (.slice ao n c) ks) (hn : n ≤ 1000000) (hfit : ∀ j, j < n → FitN (kAt ks j).n ∧ WfK (kAt ks j)) :
    Calls Try.prog 10 #[.slice ao n c, .int .i64 fan] w fun e w' => (∃ v fs, e = .returned v ∧ FlV w' w.heap.size v fs ∧ (fs = [] ↔ WholeP fan ks)) ∧ Below w.heap.size w w' :=
  (flaws_all w0 ao n c ks fan w hb0 h hn hfit).mono (fun e w' hp => by
    obtain ⟨⟨v, fs, h1, h2, h3, _⟩, h4⟩ := hp
    exact ⟨⟨v, fs, h1, h2, h3⟩, h4⟩)
set_option maxHeartbeats 1000000 in
set_option maxRecDepth 100000 in
theorem whole_any (w0 : World) (ao : Option Addr) (n c : Nat) (ks : List Kn) (fan : Int) (w : World) (hb0 : Below w0.heap.size w0 w) (h : KsAt (PV w0) w (.slice ao n c) ks) (hn : n ≤ 1000000) (hfit : ∀ j, j < n → FitN (kAt ks j).n ∧ WfK (kAt ks j)) :
    Calls Try.prog 5 #[.slice ao n c, .int .i64 fan] w fun e w' => ∃ r : Bool, e = .returned (.bool r) ∧ (r = true ↔ WholeP fan ks) ∧ Below w.heap.size w w' := by
  have HF := Lib.hid (flaws_any w0 ao n c ks fan w hb0 h hn hfit)
  clear hb0 h hfit hn
  go_enter Try.func5, Try.ntmps5
  go_wp2_with fail
  refine HF.out.mono ?_
  rintro e w1 ⟨⟨v, fs, rfl, hfv, hfd⟩, hb1⟩
  rcases hfv.form with ⟨rfl, rfl⟩ | ⟨g, c5, rfl, _⟩
  · have HE := Lib.hid (show _ ∧ _ from ⟨hfd.1 rfl, hb1⟩)
    clear hfv hfd hb1
    go_wp2
    go_ret
    exact ⟨true, rfl, ⟨fun _ => HE.out.1, fun _ => rfl⟩, HE.out.2⟩
  · obtain ⟨m, hm⟩ : ∃ m, m = fs.length := ⟨_, rfl⟩
    rw [← hm]
    by_cases he : m = 0
    · subst he
      have HE := Lib.hid (show _ ∧ _ from ⟨hfd.1 (List.eq_nil_of_length_eq_zero hm.symm), hb1⟩)
      clear hfv hfd hb1 hm
      go_wp2
      go_ret
      exact ⟨true, rfl, ⟨fun _ => HE.out.1, fun _ => rfl⟩, HE.out.2⟩
    · have HE := Lib.hid (show ¬ WholeP fan ks ∧ _ from ⟨fun h => he (by rw [hm, hfd.2 h]; rfl), hb1⟩)
      have he' : ((m : Int) == 0) = false := beq_eq_false_iff_ne.2 (by omega)
      clear hfv hfd hb1 hm he
      go_wp2
      go_ret
      exact ⟨false, rfl, ⟨fun h => (by cases h), fun h => absurd h HE.out.1⟩, HE.out.2⟩
end Go.Proofs.Ytgaacoeggikbpaa

namespace Go.Proofs.Ytgaacoeggikbpaa
open Go.RowKit Go.Maps

noncomputable def heightN (ks : List Kn) : Int := match kfind ks 0 with | none => 0 | some k => if soundB 64 k.n = true then k.n.lv + 1 else 0
theorem kfind_at {ks : List Kn} {c : Int} {i : Nat} (hi : i < ks.length) (h : (kAt ks i).c = c) (hb : ∀ j, j < i → (kAt ks j).c ≠ c) : kfind ks c = some (kAt ks i) := by
  unfold kfind
  rw [List.find?_eq_some_iff_getElem]
  refine ⟨by simpa using h, i, hi, (kAt_eq hi).symm, fun j hj => ?_⟩
  have h2 := hb j hj
  rw [kAt_eq (by omega)] at h2
  simpa using h2
theorem kfind_no {ks : List Kn} {c : Int} (hb : ∀ j, j < ks.length → (kAt ks j).c ≠ c) : kfind ks c = none := by
  unfold kfind
  rw [List.find?_eq_none]
  intro k hk
  obtain ⟨j, hj, rfl⟩ := List.getElem_of_mem hk
  have h2 := hb j hj
  rw [kAt_eq hj] at h2
  simpa using h2
set_option maxHeartbeats 2000000 in
set_option maxRecDepth 100000 in
theorem height1_any (kn : Kn) (v : Value) (w : World) (hv : KnV w v kn) :
    Calls Try.prog 26 #[v] w fun e w' => e = .returned (.bool (decide (kn.c = 0))) ∧ Below w.heap.size w w' := by
  obtain ⟨ak, av, ac, ck, cv, cc, rfl, _⟩ := kn_open hv
  have hx := boxed_below w (.cells (KnA kn ak av ac ck cv cc) 40)
  have n1 := BX.new w 40 (KnA kn ak av ac ck cv cc)
  obtain ⟨G, hG⟩ : ∃ g, g = w.heap.size := ⟨_, rfl⟩
  rw [← hG] at n1
  obtain ⟨W1, hW1⟩ : ∃ W, W = w.alloc (.cells (KnA kn ak av ac ck cv cc) 40) := ⟨_, rfl⟩
  rw [← hW1] at hx n1
  unfold KnA at hW1 n1
  have k0 := n1.cell 0 rfl
  have HW := Lib.hid (show G = w.heap.size ∧ _ from ⟨hG, hW1⟩)
  have HX := Lib.hid hx
  clear hx n1 hG hW1 hv
  by_cases h1 : kn.c = 0
  · rw [decide_eq_true h1]
    have h1' : (kn.c == 0) = true := beq_iff_eq.2 h1
    clear h1
    go_enter Try.func26, Try.ntmps26
    go_upto_region 1 with fail
    rw [← HW.out.1, ← HW.out.2]
    clear HW
    go_wp2
    go_ret
    exact ⟨rfl, HX.out⟩
  · rw [decide_eq_false h1]
    have h1' : (kn.c == 0) = false := beq_eq_false_iff_ne.2 h1
    clear h1
    go_enter Try.func26, Try.ntmps26
    go_upto_region 1 with fail
    rw [← HW.out.1, ← HW.out.2]
    clear HW
    go_wp2
    go_ret
    exact ⟨rfl, HX.out⟩
set_option maxHeartbeats 4000000 in
set_option maxRecDepth 100000 in
theorem index0_any (w0 : World) (ao : Option Addr) (n c : Nat) (ks : List Kn) (w : World) (hb0 : Below w0.heap.size w0 w) (h : KsAt (PV w0) w (.slice ao n c) ks) (hn : n ≤ 1000000) :
    Calls Try.prog 25 #[.slice ao n c, .func (.func 26) #[] #[]] w fun e w' => (e = .returned (.int .i64 (-1)) ∧ (∀ j, j < n → (kAt ks j).c ≠ 0) ∨ ∃ i : Nat, e = .returned (.int .i64 i) ∧ i < n ∧ (kAt ks i).c = 0 ∧ ∀ j, j < i → (kAt ks j).c ≠ 0) ∧ Below w.heap.size w w' := by
  have HK := Lib.hid h
  have H0 := Lib.hid hb0
  have hl2 := h.len.2
  clear h hb0
  go_enter Try.func25, Try.ntmps25
  go_wp2
  go_loopw [8] (fun s wr => ∃ i : Nat, s = .int .i64 i ∧ i ≤ n ∧ Hid (Below w.heap.size w wr ∧ ∀ j, j < i → (kAt ks j).c ≠ 0)) (fun s _ => n - (intOf s).toNat)
  case atStart => exact ⟨0, rfl, Nat.zero_le _, Lib.hid ⟨Below.refl _ _, fun j h => absurd h (Nat.not_lt_zero _)⟩⟩
  case round =>
    obtain ⟨i, rfl, hi, HS⟩ := hrel
    obtain ⟨wx, hwx⟩ : ∃ W : World, W = wr := ⟨_, rfl⟩
    rw [← hwx] at HS ⊢
    clear hwx
    by_cases hlt : i < n
    · have hlt' : (i : Int) < n := by omega
      obtain ⟨g, o, ak, nk, ck, av, nv, cv, ac, nc, cc, rfl, hP, hc⟩ := HK.out.get hlt
      obtain ⟨q0, q1, q2, q3, q4, q5, q6, q7, q8, q9, q10⟩ := hc _ HS.out.1
      obtain ⟨kn, hkn⟩ : ∃ kn, kn = kAt ks i := ⟨_, rfl⟩
      rw [← hkn] at q0 q1 q2 q3 q4 q5 q6 q7 hP
      obtain ⟨rfl, rfl, rfl, _⟩ := PV.ndF hP
      have HC := Lib.hid (height1_any kn (.agg #[.int .i64 kn.c, .int .u64 kn.wd, .int .u64 kn.vr, .int .i64 kn.n.lv, .string kn.n.lo, .string kn.n.hi, .bool kn.n.la, .int .i64 kn.n.nx, .slice ak kn.n.ks.length ck, .slice av kn.n.vs.length cv, .slice ac kn.n.cs.length cc]) wx (KnV.keep hP (H0.out.trans (HS.out.1.mono H0.out.size))))
      have HKN := Lib.hid hkn
      clear hc hkn hP
      by_cases h1 : kn.c = 0
      · rw [decide_eq_true h1] at HC
        have HZ := Lib.hid h1
        clear h1
        go_wp2_with fail
        refine HC.out.mono ?_
        rintro e w4 ⟨rfl, hb4⟩
        have HB4 := Lib.hid (HS.out.1.trans (hb4.mono HS.out.1.size))
        clear hb4 q0 q1 q2 q3 q4 q5 q6 q7 q8 q9 q10
        go_wp2
        go_ret
        exact ⟨Or.inr ⟨i, rfl, hlt, by rw [← HKN.out]; exact HZ.out, HS.out.2⟩, HB4.out⟩
      · rw [decide_eq_false h1] at HC
        have HN := Lib.hid (show ∀ j, j < i + 1 → (kAt ks j).c ≠ 0 from fun j hj => by
          by_cases e : j = i
          · rw [e, ← HKN.out]; exact h1
          · exact HS.out.2 j (by omega))
        clear h1
        go_wp2_with fail
        refine HC.out.mono ?_
        rintro e w4 ⟨rfl, hb4⟩
        have HB4 := Lib.hid (HS.out.1.trans (hb4.mono HS.out.1.size))
        clear hb4 q0 q1 q2 q3 q4 q5 q6 q7 q8 q9 q10
        go_wp2
        go_roundw
        case rel => exact ⟨i + 1, by go_num, by omega, Lib.hid ⟨HB4.out, HN.out⟩⟩
        case measure => simp [intOf]; omega
    · obtain rfl : i = n := by omega
      go_wp2
      go_ret
      exact ⟨Or.inl ⟨rfl, HS.out.2⟩, HS.out.1⟩
set_option maxHeartbeats 2000000 in
set_option maxRecDepth 100000 in
theorem isSound_any (n : Nod) (v : Value) (w : World) (hv : NdV w v n) (hf : FitN n) :
    Calls Try.prog 27 #[v] w fun e w' => e = .returned (.bool (soundB 64 n)) ∧ Below w.heap.size w w' := by
  obtain ⟨ak, av, ac, ck, cv, cc, rfl, hnd⟩ := nod_open hv
  have hx := boxed_below w (.cells #[.int .i64 n.lv, .string n.lo, .string n.hi, .bool n.la, .int .i64 n.nx, .slice ak n.ks.length ck, .slice av n.vs.length cv, .slice ac n.cs.length cc] 38)
  have n1 := BX.new w 38 #[.int .i64 n.lv, .string n.lo, .string n.hi, .bool n.la, .int .i64 n.nx, .slice ak n.ks.length ck, .slice av n.vs.length cv, .slice ac n.cs.length cc]
  obtain ⟨G, hG⟩ : ∃ g, g = w.heap.size := ⟨_, rfl⟩
  rw [← hG] at n1
  obtain ⟨W1, hW1⟩ : ∃ W, W = w.alloc (.cells #[.int .i64 n.lv, .string n.lo, .string n.hi, .bool n.la, .int .i64 n.nx, .slice ak n.ks.length ck, .slice av n.vs.length cv, .slice ac n.cs.length cc] 38) := ⟨_, rfl⟩
  rw [← hW1] at hx n1
  obtain ⟨sb, hsb⟩ : ∃ sb, sb = soundB 64 n := ⟨_, rfl⟩
  have HCK := Lib.hid (check_of n.lv n.nx n.lo n.hi n.la ak av ac n.ks.length ck n.vs.length cv n.cs.length cc n.ks n.vs n.cs 64 sb W1 (hnd.keep hx) hf.fit (by rw [hsb]; exact soundB_iff 64 n))
  rw [← hsb]
  have k0 := n1.cell 0 rfl
  have k1 := n1.cell 1 rfl
  have k2 := n1.cell 2 rfl
  have k3 := n1.cell 3 rfl
  have k4 := n1.cell 4 rfl
  have k5 := n1.cell 5 rfl
  have k6 := n1.cell 6 rfl
  have k7 := n1.cell 7 rfl
  have HW := Lib.hid (show G = w.heap.size ∧ _ from ⟨hG, hW1⟩)
  have HX := Lib.hid hx
  clear hx n1 hG hW1 hv hnd hf hsb
  go_enter Try.func27, Try.ntmps27
  go_upto_region 1 with fail
  rw [← HW.out.1, ← HW.out.2]
  clear HW
  go_wp2_with fail
  refine HCK.out.mono ?_
  rintro e w4 ⟨z, rfl, hz1, hz2, hb4⟩
  have HB4 := Lib.hid (HX.out.trans (hb4.mono HX.out.size))
  clear hb4 k0 k1 k2 k3 k4 k5 k6 k7
  cases sb with
  | true =>
    go_wp2
    go_ret
    exact ⟨rfl, HB4.out⟩
  | false =>
    go_wp2
    go_ret
    exact ⟨rfl, HB4.out⟩
set_option maxHeartbeats 4000000 in
set_option maxRecDepth 100000 in
theorem height_any (w0 : World) (ao : Option Addr) (n c : Nat) (ks : List Kn) (w : World) (hb0 : Below w0.heap.size w0 w) (h : KsAt (PV w0) w (.slice ao n c) ks) (hn : n ≤ 1000000) (hfit : ∀ j, j < n → FitN (kAt ks j).n) :
    Calls Try.prog 12 #[.slice ao n c] w fun e w' => e = .returned (.int .i64 (heightN ks)) ∧ Below w.heap.size w w' := by
  have HI := Lib.hid (index0_any w0 ao n c ks w hb0 h hn)
  have HK := Lib.hid h
  have H0 := Lib.hid hb0
  have HL := Lib.hid h.len.1
  have hl2 := h.len.2
  have HFIT := Lib.hid hfit
  clear h hb0 hfit
  go_enter Try.func12, Try.ntmps12
  go_wp2_with fail
  refine HI.out.mono ?_
  rintro e w1 ⟨⟨rfl, hno⟩ | ⟨i, rfl, hi, hz, hno⟩, hb1⟩
  · have HE := Lib.hid (show heightN ks = 0 ∧ _ from ⟨by unfold heightN; rw [kfind_no (fun j hj => hno j (by rw [HL.out]; exact hj))], hb1⟩)
    clear hno hb1
    go_wp2
    go_ret
    exact ⟨by rw [HE.out.1]; rfl, HE.out.2⟩
  · obtain ⟨g, o, ak, nk, ck, av, nv, cv, ac, nc, cc, rfl, hP, hc⟩ := HK.out.get hi
    obtain ⟨q0, q1, q2, q3, q4, q5, q6, q7, q8, q9, q10⟩ := hc _ hb1
    have hfn := HFIT.out i hi
    have hkf := kfind_at (by rw [← HL.out]; exact hi) hz hno
    obtain ⟨kn, hkn⟩ : ∃ kn, kn = kAt ks i := ⟨_, rfl⟩
    rw [← hkn] at q0 q1 q2 q3 q4 q5 q6 q7 hP hfn hkf
    obtain ⟨rfl, rfl, rfl, hnd⟩ := PV.ndF hP
    have hi' : (i : Int) < n := by omega
    have hi0 : decide ((i : Int) < 0) = false := decide_eq_false (by omega)
    have HB1 := Lib.hid hb1
    have HC := Lib.hid (isSound_any kn.n (.agg #[.int .i64 kn.n.lv, .string kn.n.lo, .string kn.n.hi, .bool kn.n.la, .int .i64 kn.n.nx, .slice ak kn.n.ks.length ck, .slice av kn.n.vs.length cv, .slice ac kn.n.cs.length cc]) w1 ⟨ak, av, ac, ck, cv, cc, rfl, hnd.keep (H0.out.trans (hb1.mono H0.out.size))⟩ hfn)
    have hh : heightN ks = if soundB 64 kn.n = true then kn.n.lv + 1 else 0 := by unfold heightN; rw [hkf]
    obtain ⟨sb, hsb⟩ : ∃ sb, sb = soundB 64 kn.n := ⟨_, rfl⟩
    have HLV := Lib.hid (show sb = true → 0 ≤ kn.n.lv ∧ kn.n.lv < 14 from fun h => ((soundB_iff 64 kn.n).1 (by rw [← hsb]; exact h)).2.level)
    rw [← hsb] at HC hh
    have HH := Lib.hid hh
    have HCC := Lib.hid hc
    have HKN := Lib.hid hkn
    clear hc hkn hP hnd hfn hkf hz hno hb1 hsb hh
    cases sb with
    | false =>
      go_wp2_with fail
      refine HC.out.mono ?_
      rintro e w4 ⟨rfl, hb4⟩
      have HB4 := Lib.hid (HB1.out.trans (hb4.mono HB1.out.size))
      clear hb4 q0 q1 q2 q3 q4 q5 q6 q7 q8 q9 q10
      go_wp2
      go_ret
      exact ⟨by rw [HH.out]; rfl, HB4.out⟩
    | true =>
      go_wp2_with fail
      refine HC.out.mono ?_
      rintro e w4 ⟨rfl, hb4⟩
      have hbb := HB1.out.trans (hb4.mono HB1.out.size)
      have r3 := (HCC.out _ hbb).2.2.2.1
      rw [← HKN.out] at r3
      have HB4 := Lib.hid hbb
      have hw : IntKind.i64.wrap (kn.n.lv + 1) = kn.n.lv + 1 := by
        have : 0 ≤ kn.n.lv ∧ kn.n.lv < 14 := by first | exact HLV.out rfl | exact HLV.out trivial
        rw [IntKind.wrap_i64]
        omega
      clear hb4 hbb q0 q1 q2 q3 q4 q5 q6 q7 q8 q9 q10
      go_wp2
      go_ret
      exact ⟨by rw [HH.out]; rfl, HB4.out⟩
end Go.Proofs.Ytgaacoeggikbpaa
