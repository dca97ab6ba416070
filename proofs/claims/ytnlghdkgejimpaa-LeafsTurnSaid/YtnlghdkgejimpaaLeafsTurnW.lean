/- bowerref11.With and Without: a leaf in which a key has a value, one without a key, or none. Condition: sizes that fit. bowerref11.Without: a leaf without a key, or none. Condition: sizes that fit. The law LeafsTurn, walked: a leaf with a key, or without it, is just the document's, or there is none; what was handed in stays. Condition: the node's rows are there. -/
import Derived.Test.YtnlghdkgejimpaaLeafDoc
import Derived.Test.YtnlghdkgejimpaaLeafsBack
import Derived.Test.YtnlghdkgejimpaaNodeRSame
namespace Go.Proofs.Ytnlghdkgejimpaa
open Go.RowKit

/-- A node is told, and whether. -/
def GaveR (w w' : World) (e : Ending) (b : Bool) (n : Nod) : Prop :=
  ∃ (ak av ac : Option Addr) (ck cv cc : Nat), e = .returned (.tuple #[.agg #[.int .i64 n.lv, .string n.lo, .string n.hi, .bool n.la, .int .i64 n.nx, .slice ak n.ks.length ck, .slice av n.vs.length cv, .slice ac n.cs.length cc], .bool b]) ∧ NdAt w' ak av ac n.ks.length ck n.vs.length cv n.cs.length cc n.ks n.vs n.cs ∧ Below w.heap.size w w'
theorem GaveN.r {w w' : World} {e : Ending} {b : Bool} {n : Nod} (h : GaveN w w' e b n) : GaveR w w' e b n := by
  obtain ⟨ak, av, ac, ck, cv, cc, h1, h2, h3, _⟩ := h
  exact ⟨ak, av, ac, ck, cv, cc, h1, h2, h3⟩
/-- What Of told, in a box. -/
def OutAt (w wx : World) (s : Value) (lv nx : Int) (lo hi : ByteArray) (la : Bool) (ac : Option Addr) (nc cc : Nat) (ks : List ByteArray) (vs : List Nat) : Prop :=
  ∃ (g : Nat) (ka va : Option Addr) (kc vc : Nat), s = .pointer (some ⟨g, 0, none⟩) ∧ w.heap.size + 2 ≤ g ∧ NB wx g #[.int .i64 lv, .string lo, .string hi, .bool la, .int .i64 nx, .slice ka ks.length kc, .slice va vs.length vc, .slice ac nc cc] ∧
    OwnR wx (w.heap.size + 2) 9 (.slice ka ks.length kc) (ks.map Value.string) ∧ OwnR wx (w.heap.size + 2) 27 (.slice va vs.length vc) (vs.map uv) ∧ NB wx (w.heap.size + 1) #[.int .i64 0, .string ⟨#[]⟩, .string ⟨#[]⟩, .bool false, .int .i64 0, .slice none 0 0, .slice none 0 0, .slice none 0 0] ∧ Below w.heap.size w wx
theorem gaveR_out {w wx : World} {lv nx : Int} {lo hi : ByteArray} {la : Bool} {ka va ac : Option Addr} {kc vc cc : Nat} {ks : List ByteArray} {vs : List Nat} {cs : List Int} (l : List (Nat × Value))
    (h1 : OwnR wx (w.heap.size + 2) 9 (.slice ka ks.length kc) (ks.map Value.string)) (h2 : OwnR wx (w.heap.size + 2) 27 (.slice va vs.length vc) (vs.map uv)) (h3 : NB wx (w.heap.size + 1) #[.int .i64 0, .string ⟨#[]⟩, .string ⟨#[]⟩, .bool false, .int .i64 0, .slice none 0 0, .slice none 0 0, .slice none 0 0]) (hb : Below w.heap.size w wx)
    (hc : Rd w (.slice ac cs.length cc) (cs.map (Value.int .i64))) :
    GaveR w (wr5 wx (w.heap.size + 1) l) (.returned (.tuple #[.agg #[.int .i64 lv, .string lo, .string hi, .bool la, .int .i64 nx, .slice ka ks.length kc, .slice va vs.length vc, .slice ac cs.length cc], .bool true])) true ⟨lv, nx, lo, hi, la, ks, vs, cs⟩ := by
  have hb2 := wr5_below (w.heap.size + 1) w.heap.size (by omega) l w wx hb
  exact ⟨ka, va, ac, kc, vc, cc, rfl, ⟨rd_of_owns (own_wr5 h1 h3 (by decide) l), rd_of_owns (own_wr5 h2 h3 (by decide) l), hc.keep hb2⟩, hb2⟩

theorem NB.drew {W : World} {g : Nat} {cs : Array Value} (h : NB W g cs) : NB W.drew g cs := h
theorem out_of {w W : World} {g : Nat} {lv nx : Int} {lo hi : ByteArray} {la : Bool} {ka va ac : Option Addr} {kc vc nc cc : Nat} {ks : List ByteArray} {vs : List Nat}
    (hg : NB W g #[.int .i64 0, .string ⟨#[]⟩, .string ⟨#[]⟩, .bool false, .int .i64 0, .slice none 0 0, .slice none 0 0, .slice none 0 0]) (h0 : w.heap.size + 2 ≤ g)
    (h1 : OwnR W (w.heap.size + 2) 9 (.slice ka ks.length kc) (ks.map Value.string)) (h2 : OwnR W (w.heap.size + 2) 27 (.slice va vs.length vc) (vs.map uv)) (h3 : NB W (w.heap.size + 1) #[.int .i64 0, .string ⟨#[]⟩, .string ⟨#[]⟩, .bool false, .int .i64 0, .slice none 0 0, .slice none 0 0, .slice none 0 0]) (hb : Below w.heap.size w W) :
    OutAt w ((((((((W.setCell ⟨g, 0, none⟩ (.int .i64 lv)).setCell ⟨g, 1, none⟩ (.string lo)).setCell ⟨g, 2, none⟩ (.string hi)).setCell ⟨g, 3, none⟩ (.bool la)).setCell ⟨g, 4, none⟩ (.int .i64 nx)).setCell ⟨g, 5, none⟩ (.slice ka ks.length kc)).setCell ⟨g, 6, none⟩ (.slice va vs.length vc)).setCell ⟨g, 7, none⟩ (.slice ac nc cc)) (.pointer (some ⟨g, 0, none⟩)) lv nx lo hi la ac nc cc ks vs := by
  show OutAt w (wr5 W g [(0, .int .i64 lv), (1, .string lo), (2, .string hi), (3, .bool la), (4, .int .i64 nx), (5, .slice ka ks.length kc), (6, .slice va vs.length vc), (7, .slice ac nc cc)]) (.pointer (some ⟨g, 0, none⟩)) lv nx lo hi la ac nc cc ks vs
  refine ⟨g, ka, va, kc, vc, rfl, h0, wr8 hg _ _ _ _ _ _ _ _, own_wr5 h1 hg (by decide) _, own_wr5 h2 hg (by decide) _, ?_, wr5_below g w.heap.size (by omega) _ _ _ hb⟩
  have : (wr5 W g [(0, .int .i64 lv), (1, .string lo), (2, .string hi), (3, .bool la), (4, .int .i64 nx), (5, .slice ka ks.length kc), (6, .slice va vs.length vc), (7, .slice ac nc cc)]).heap[w.heap.size + 1]? = _ := wr5_far g (w.heap.size + 1) (by omega) _ _
  exact this.trans h3

theorem out_new {w W : World} {lv nx : Int} {lo hi : ByteArray} {la : Bool} {ka va ac : Option Addr} {kc vc nc cc : Nat} {ks : List ByteArray} {vs : List Nat}
    (h0 : w.heap.size + 2 ≤ W.heap.size) (h1 : OwnR W (w.heap.size + 2) 9 (.slice ka ks.length kc) (ks.map Value.string)) (h2 : OwnR W (w.heap.size + 2) 27 (.slice va vs.length vc) (vs.map uv)) (h3 : NB W (w.heap.size + 1) #[.int .i64 0, .string ⟨#[]⟩, .string ⟨#[]⟩, .bool false, .int .i64 0, .slice none 0 0, .slice none 0 0, .slice none 0 0]) (hb : Below w.heap.size w W) :
    OutAt w (W.alloc (.cells #[.int .i64 lv, .string lo, .string hi, .bool la, .int .i64 nx, .slice ka ks.length kc, .slice va vs.length vc, .slice ac nc cc] 26)) (.pointer (some ⟨W.heap.size, 0, none⟩)) lv nx lo hi la ac nc cc ks vs :=
  ⟨W.heap.size, ka, va, kc, vc, rfl, h0, NB.new _ _, h1.keep (boxed_below _ _), h2.keep (boxed_below _ _), h3.below (boxed_below _ _), hb.alloc hb.size _⟩

set_option maxHeartbeats 8000000 in
set_option maxRecDepth 100000 in
theorem rwith_of (lv nx : Int) (lo hi : ByteArray) (la : Bool) (ak av ac : Option Addr) (ck cv cc : Nat) (ks : List ByteArray) (vs : List Nat) (cs : List Int) (k : ByteArray) (v : Nat) (fan : Int) (b : Bool) (w : World) (hN : NdAt w ak av ac ks.length ck vs.length cv cs.length cc ks vs cs) (hf : Fit lo hi ks ks.length vs.length cs.length) (hs : ks.length ≤ 200 ∧ vs.length ≤ 200 ∧ cs.length ≤ 200) (hk : k.size ≤ 140737488355328) (hb : b = true ↔ Nod.WithP ⟨lv, nx, lo, hi, la, ks, vs, cs⟩ k v fan) :
    Calls Try.prog 13 #[.agg #[.int .i64 lv, .string lo, .string hi, .bool la, .int .i64 nx, .slice ak ks.length ck, .slice av vs.length cv, .slice ac cs.length cc], .string k, .int .u64 v, .int .i64 fan] w fun e w' => GaveR w w' e b (Nod.or b (Nod.with ⟨lv, nx, lo, hi, la, ks, vs, cs⟩ k v)) := by
  obtain ⟨n1, n2, hB⟩ := boxes2 w #[.int .i64 lv, .string lo, .string hi, .bool la, .int .i64 nx, .slice ak ks.length ck, .slice av vs.length cv, .slice ac cs.length cc] #[.int .i64 0, .string ⟨#[]⟩, .string ⟨#[]⟩, .bool false, .int .i64 0, .slice none 0 0, .slice none 0 0, .slice none 0 0]
  obtain ⟨w1, hw1⟩ : ∃ w1, w1 = (w.alloc (.cells #[.int .i64 lv, .string lo, .string hi, .bool la, .int .i64 nx, .slice ak ks.length ck, .slice av vs.length cv, .slice ac cs.length cc] 26)).alloc (.cells #[.int .i64 0, .string ⟨#[]⟩, .string ⟨#[]⟩, .bool false, .int .i64 0, .slice none 0 0, .slice none 0 0, .slice none 0 0] 26) := ⟨_, rfl⟩
  have HB : Hid (Below w.heap.size w w1) := Lib.hid (by rw [hw1]; exact hB)
  have HN1 : Hid (NB w1 w.heap.size #[.int .i64 lv, .string lo, .string hi, .bool la, .int .i64 nx, .slice ak ks.length ck, .slice av vs.length cv, .slice ac cs.length cc]) := Lib.hid (by rw [hw1]; exact n1)
  have HN2 : Hid (NB w1 (w.heap.size + 1) #[.int .i64 0, .string ⟨#[]⟩, .string ⟨#[]⟩, .bool false, .int .i64 0, .slice none 0 0, .slice none 0 0, .slice none 0 0]) := Lib.hid (by rw [hw1]; exact n2)
  have HSZ : Hid (w1.heap.size = w.heap.size + 1 + 1) := Lib.hid (by rw [hw1, World.size_alloc, World.size_alloc])
  have HW1 := Lib.hid hw1
  obtain ⟨q0, q1, q2, q3, q4, q5, q6, q7⟩ := HN1.out.cells
  obtain ⟨l, hl⟩ := bool_or (lv = 0 ∧ SoundP lv nx lo hi la ks.length vs.length cs.length ks cs 64)
  have HIS := Lib.hid (rleaf_of lv nx lo hi la ak av ac ks.length ck vs.length cv cs.length cc ks vs cs l w1 (hN.keep HB.out) hf hl)
  have HKY := Lib.hid (rkey_any k)
  have HIN := Lib.hid (fun W => rinside_any lo hi la k W hf.lo hf.hi hk)
  have HND := Lib.hid hN
  have HFT := Lib.hid hf
  have HKK := Lib.hid hk
  have HSM := Lib.hid hs
  have HLL := Lib.hid hl
  have HBB := Lib.hid hb
  clear hN hf hs hk hb hl hw1 n1 n2 hB
  go_enter Try.func13, Try.ntmps13
  go_wp2_with fail
  rw [← HW1.out]
  refine HIS.out.mono ?_
  rintro e w2 ⟨rfl, hb2⟩
  have HB2 := Lib.hid hb2
  have HRB := Lib.hid (HN2.out.below HB2.out)
  have HBW := Lib.hid (HB.out.trans (HB2.out.mono HB.out.size))
  clear hb2
  cases l with
  | false =>
    have HF : Hid (b = false) := Lib.hid (bool_no HBB.out (fun h => by have := HLL.out.2 h.1; cases this))
    obtain ⟨t0, t1, t2, t3, t4, t5, t6, t7⟩ := (HRB.out).cells
    have f0 := (HRB.out).frozen 0
    have f1 := (HRB.out).frozen 1
    have f2 := (HRB.out).frozen 2
    have f3 := (HRB.out).frozen 3
    have f4 := (HRB.out).frozen 4
    have f5 := (HRB.out).frozen 5
    have f6 := (HRB.out).frozen 6
    have f7 := (HRB.out).frozen 7
    go_wp2
    refine bodyPost_ret (v := .tuple #[.agg #[.int .i64 0, .string ⟨#[]⟩, .string ⟨#[]⟩, .bool false, .int .i64 0, .slice none 0 0, .slice none 0 0, .slice none 0 0], .bool false]) (by simp [results, Try.results13, go_sem, *]) rfl ?_
    rw [HF.out]
    exact GaveN.r (gave_none (wr5_below (w.heap.size + 1) w.heap.size (by omega) [(0, _), (1, _), (2, _), (3, _), (4, _), (5, _), (6, _), (7, _)] w w2 HBW.out))
  | true =>
    have HS := Lib.hid (HLL.out.1 rfl)
    have HLE := Lib.hid (HS.out.2.entries.leaf HS.out.1)
    by_cases hf1 : fan < 4
    · have HF : Hid (b = false) := Lib.hid (bool_no HBB.out (fun h => by have := h.2.1; omega))
      obtain ⟨t0, t1, t2, t3, t4, t5, t6, t7⟩ := (HRB.out).cells
      have f0 := (HRB.out).frozen 0
      have f1 := (HRB.out).frozen 1
      have f2 := (HRB.out).frozen 2
      have f3 := (HRB.out).frozen 3
      have f4 := (HRB.out).frozen 4
      have f5 := (HRB.out).frozen 5
      have f6 := (HRB.out).frozen 6
      have f7 := (HRB.out).frozen 7
      go_wp2
      refine bodyPost_ret (v := .tuple #[.agg #[.int .i64 0, .string ⟨#[]⟩, .string ⟨#[]⟩, .bool false, .int .i64 0, .slice none 0 0, .slice none 0 0, .slice none 0 0], .bool false]) (by simp [results, Try.results13, go_sem, *]) rfl ?_
      rw [HF.out]
      exact GaveN.r (gave_none (wr5_below (w.heap.size + 1) w.heap.size (by omega) [(0, _), (1, _), (2, _), (3, _), (4, _), (5, _), (6, _), (7, _)] w w2 HBW.out))
    by_cases hf2 : 64 < fan
    · have HF : Hid (b = false) := Lib.hid (bool_no HBB.out (fun h => by have := h.2.1; omega))
      obtain ⟨t0, t1, t2, t3, t4, t5, t6, t7⟩ := (HRB.out).cells
      have f0 := (HRB.out).frozen 0
      have f1 := (HRB.out).frozen 1
      have f2 := (HRB.out).frozen 2
      have f3 := (HRB.out).frozen 3
      have f4 := (HRB.out).frozen 4
      have f5 := (HRB.out).frozen 5
      have f6 := (HRB.out).frozen 6
      have f7 := (HRB.out).frozen 7
      go_wp2
      refine bodyPost_ret (v := .tuple #[.agg #[.int .i64 0, .string ⟨#[]⟩, .string ⟨#[]⟩, .bool false, .int .i64 0, .slice none 0 0, .slice none 0 0, .slice none 0 0], .bool false]) (by simp [results, Try.results13, go_sem, *]) rfl ?_
      rw [HF.out]
      exact GaveN.r (gave_none (wr5_below (w.heap.size + 1) w.heap.size (by omega) [(0, _), (1, _), (2, _), (3, _), (4, _), (5, _), (6, _), (7, _)] w w2 HBW.out))
    have hf3 : ¬ (64 : Int) < fan := hf2
    have HBI : Hid (b = true ↔ keyB k = true ∧ insideB lo.data.toList hi.data.toList la k.data.toList = true ∧ ((Nod.with ⟨lv, nx, lo, hi, la, ks, vs, cs⟩ k v).ks.length : Int) ≤ fan) := Lib.hid (HBB.out.trans ⟨fun h => Nod.sound_with (n := ⟨lv, nx, lo, hi, la, ks, vs, cs⟩) (f2 := 64) HS.out.1 HS.out.2 h.2.2, fun h => ⟨HS.out, by omega, Nod.with_sound (n := ⟨lv, nx, lo, hi, la, ks, vs, cs⟩) (f2 := 64) HS.out.1 HS.out.2 h.1 h.2.1 h.2.2⟩⟩)
    go_wp2_with fail
    refine (HKY.out _).mono ?_
    rintro e wx ⟨rfl, rfl⟩
    cases hkb : keyB k with
    | false =>
      have HF : Hid (b = false) := Lib.hid (bool_no HBI.out (fun h => by have := h.1; rw [hkb] at this; cases this))
      obtain ⟨t0, t1, t2, t3, t4, t5, t6, t7⟩ := (HRB.out).cells
      have f0 := (HRB.out).frozen 0
      have f1 := (HRB.out).frozen 1
      have f2 := (HRB.out).frozen 2
      have f3 := (HRB.out).frozen 3
      have f4 := (HRB.out).frozen 4
      have f5 := (HRB.out).frozen 5
      have f6 := (HRB.out).frozen 6
      have f7 := (HRB.out).frozen 7
      go_wp2
      refine bodyPost_ret (v := .tuple #[.agg #[.int .i64 0, .string ⟨#[]⟩, .string ⟨#[]⟩, .bool false, .int .i64 0, .slice none 0 0, .slice none 0 0, .slice none 0 0], .bool false]) (by simp [results, Try.results13, go_sem, *]) rfl ?_
      rw [HF.out]
      exact GaveN.r (gave_none (wr5_below (w.heap.size + 1) w.heap.size (by omega) [(0, _), (1, _), (2, _), (3, _), (4, _), (5, _), (6, _), (7, _)] w w2 HBW.out))
    | true =>
      have HKB := Lib.hid hkb
      obtain ⟨q0, q1, q2, q3, q4, q5, q6, q7⟩ := (HN1.out.below HB2.out).cells
      go_wp2_with fail
      refine (HIN.out _).mono ?_
      rintro e w3 ⟨rfl, hd3⟩
      have HB3 := Lib.hid (HB2.out.trans ((drew_below hd3 _).mono HB2.out.size))
      have HR3 := Lib.hid (HN2.out.below HB3.out)
      have HBV := Lib.hid (HB.out.trans (HB3.out.mono HB.out.size))
      clear hd3 q0 q1 q2 q3 q4 q5 q6 q7
      cases hib : insideB lo.data.toList hi.data.toList la k.data.toList with
      | false =>
        have HF : Hid (b = false) := Lib.hid (bool_no HBI.out (fun h => by have := h.2.1; rw [hib] at this; cases this))
        obtain ⟨t0, t1, t2, t3, t4, t5, t6, t7⟩ := (HR3.out).cells
        have f0 := (HR3.out).frozen 0
        have f1 := (HR3.out).frozen 1
        have f2 := (HR3.out).frozen 2
        have f3 := (HR3.out).frozen 3
        have f4 := (HR3.out).frozen 4
        have f5 := (HR3.out).frozen 5
        have f6 := (HR3.out).frozen 6
        have f7 := (HR3.out).frozen 7
        go_wp2
        refine bodyPost_ret (v := .tuple #[.agg #[.int .i64 0, .string ⟨#[]⟩, .string ⟨#[]⟩, .bool false, .int .i64 0, .slice none 0 0, .slice none 0 0, .slice none 0 0], .bool false]) (by simp [results, Try.results13, go_sem, *]) rfl ?_
        rw [HF.out]
        exact GaveN.r (gave_none (wr5_below (w.heap.size + 1) w.heap.size (by omega) [(0, _), (1, _), (2, _), (3, _), (4, _), (5, _), (6, _), (7, _)] w w3 HBV.out))
      | true =>
        have HIB := Lib.hid hib
        have HZ : Hid (fan ≤ 64) := Lib.hid (by omega)
        obtain ⟨ks2, vs2, hm, hmk, hml, hmv⟩ := Nod.with_rows lv nx lo hi la ks vs cs k v
        have hkept := prs_with (n := ⟨lv, nx, lo, hi, la, ks, vs, cs⟩) HS.out.1 HS.out.2 k v
        have hlens := with_lens (n := ⟨lv, nx, lo, hi, la, ks, vs, cs⟩) HLE.out.1 k v
        rw [hm] at hkept hlens
        simp only at hkept hlens
        rw [hm] at HBI
        have HM := Lib.hid hm
        have HLN := Lib.hid hlens
        have HC : Hid (∀ W, Below w3.heap.size w3 W → ((W.cell? ⟨w.heap.size, 0, none⟩ = some (.int .i64 lv) ∧ W.cell? ⟨w.heap.size, 1, none⟩ = some (.string lo) ∧ W.cell? ⟨w.heap.size, 2, none⟩ = some (.string hi) ∧ W.cell? ⟨w.heap.size, 3, none⟩ = some (.bool la) ∧ W.cell? ⟨w.heap.size, 4, none⟩ = some (.int .i64 nx) ∧ W.cell? ⟨w.heap.size, 5, none⟩ = some (.slice ak ks.length ck) ∧ W.cell? ⟨w.heap.size, 6, none⟩ = some (.slice av vs.length cv) ∧ W.cell? ⟨w.heap.size, 7, none⟩ = some (.slice ac cs.length cc)) ∧ Below w3.heap.size w3 W)) := Lib.hid (fun W h => ⟨((HN1.out.below HB3.out).below h).cells, h⟩)
        have HPR : Hid (∀ W, ((W.cell? ⟨w.heap.size, 0, none⟩ = some (.int .i64 lv) ∧ W.cell? ⟨w.heap.size, 1, none⟩ = some (.string lo) ∧ W.cell? ⟨w.heap.size, 2, none⟩ = some (.string hi) ∧ W.cell? ⟨w.heap.size, 3, none⟩ = some (.bool la) ∧ W.cell? ⟨w.heap.size, 4, none⟩ = some (.int .i64 nx) ∧ W.cell? ⟨w.heap.size, 5, none⟩ = some (.slice ak ks.length ck) ∧ W.cell? ⟨w.heap.size, 6, none⟩ = some (.slice av vs.length cv) ∧ W.cell? ⟨w.heap.size, 7, none⟩ = some (.slice ac cs.length cc)) ∧ Below w3.heap.size w3 W) → Calls Try.prog 22 #[.agg #[.int .i64 lv, .string lo, .string hi, .bool la, .int .i64 nx, .slice ak ks.length ck, .slice av vs.length cv, .slice ac cs.length cc]] W fun e w' => ∃ u, e = .returned u ∧ OwnP w' w3.heap.size u (prs ks vs) ∧ Below W.heap.size W w' ∧ Below w3.heap.size w3 w') := Lib.hid (fun W h => (rpairs_any lv nx lo hi la ak av ac ck cv cc ks vs cs W ((HND.out.keep HBV.out).keep h.2) HLE.out.1 (by have := HFT.out.n; omega)).mono (fun e w' hc => by
          obtain ⟨u, rfl, ho, hb⟩ := hc
          exact ⟨u, rfl, ho.base h.2.size, hb, h.2.trans (hb.mono h.2.size)⟩))
        have HPL := Lib.hid (prs_len HLE.out.1)
        have HPU : Hid (∀ W u, Below w3.heap.size w3 W → RdP W u (prs ks vs) → Calls Try.prog 53 #[u, .string k, .int .u64 (v : Nat)] W fun e w' => ∃ u, e = .returned u ∧ OwnP w' w3.heap.size u (delP (prs ks vs) k ++ [(k, (v : Int))]) ∧ Below W.heap.size W w' ∧ Below w3.heap.size w3 w') := Lib.hid (fun W u h hr => (rput_any u k (v : Nat) (prs ks vs) W hr (by rw [HPL.out]; have := HFT.out.n; omega)).mono (fun e w' hc => by
          obtain ⟨u, rfl, ho, hb⟩ := hc
          exact ⟨u, rfl, ho.base h.size, hb, h.trans (hb.mono h.size)⟩))
        have HTX := Lib.hid (prs_texts HLE.out.1 HFT.out.ks)
        have HOF : Hid (∀ W u, Below w3.heap.size w3 W → RdP W u (delP (prs ks vs) k ++ [(k, (v : Int))]) → Calls Try.prog 52 #[.agg #[.int .i64 lv, .string lo, .string hi, .bool la, .int .i64 nx, .slice ak ks.length ck, .slice av vs.length cv, .slice ac cs.length cc], u] W fun e w' => ∃ (ka va : Option Addr) (kc vc : Nat), e = .returned (.agg #[.int .i64 lv, .string lo, .string hi, .bool la, .int .i64 nx, .slice ka ks2.length kc, .slice va vs2.length vc, .slice ac cs.length cc]) ∧
            (OwnR w' (w.heap.size + 2) 9 (.slice ka ks2.length kc) (ks2.map Value.string) ∧ OwnR w' (w.heap.size + 2) 27 (.slice va vs2.length vc) (vs2.map uv)) ∧ Below W.heap.size W w' ∧ Below w3.heap.size w3 w') := Lib.hid (fun W u h hr => (rof_any lv nx lo hi la ak av ac ck cv cc ks vs cs u _ (prs ks2 vs2) W hr hkept.same hkept.rise hkept.len (by rw [hkept.len, prs_len hlens]; have := HSM.out; omega) (fun p hp => by
            have hp2 := (hkept.same p).1 hp
            refine prs_texts hlens (fun x hx => ?_) p hp2
            rcases hmk x hx with g | g
            · exact HFT.out.ks x g
            · rw [g]; exact HKK.out)).mono (fun e w' hc => by
          obtain ⟨ka, va, kc, vc, rfl, h1, h2, hb⟩ := hc
          rw [prs_len hlens] at h1 h2 ⊢
          rw [kOf_prs hlens] at h1
          rw [vOf_prs hlens] at h2
          have hB2 : w.heap.size + 2 ≤ W.heap.size := by have := lt_of_block HR3.out; have := h.size; omega
          refine ⟨ka, va, kc, vc, by rw [hlens], ⟨?_, ?_⟩, hb, h.trans (hb.mono h.size)⟩
          · unfold OwnR; rw [List.length_map]
            exact own_base h1 (by omega)
          · unfold OwnR; rw [List.length_map, hlens]
            exact own_base h2 (by omega)))
        clear hm hmk hml hmv hkept hlens
        go_upto_region 3 with fail
        go_cut [10] (fun s10 wx => Hid (OutAt w wx s10 lv nx lo hi la ac cs.length cc ks2 vs2))
        case first =>
          rename_i J1 K1 hJ1 hK1
          have hS0 := HC.out w3.drew (Below.refl _ _).drew
          go_region_held_law (fun W => ((W.cell? ⟨w.heap.size, 0, none⟩ = some (.int .i64 lv) ∧ W.cell? ⟨w.heap.size, 1, none⟩ = some (.string lo) ∧ W.cell? ⟨w.heap.size, 2, none⟩ = some (.string hi) ∧ W.cell? ⟨w.heap.size, 3, none⟩ = some (.bool la) ∧ W.cell? ⟨w.heap.size, 4, none⟩ = some (.int .i64 nx) ∧ W.cell? ⟨w.heap.size, 5, none⟩ = some (.slice ak ks.length ck) ∧ W.cell? ⟨w.heap.size, 6, none⟩ = some (.slice av vs.length cv) ∧ W.cell? ⟨w.heap.size, 7, none⟩ = some (.slice ac cs.length cc)) ∧ Below w3.heap.size w3 W))
            (first | (with_reducible exact hS0) | (with_reducible exact hS4) | (with_reducible exact hS5) | (with_reducible exact hS6) | ((with_reducible refine HC.out _ ?_); repeat' (first | (with_reducible assumption) | (with_reducible exact Below.refl _ _) | (with_reducible refine Below.drew ?_) | (with_reducible refine Below.alloc ?_ ?_ _) | (with_reducible refine Below.setCell ?_ ?_ _) | omega | (simp <;> omega))))
            (first
              | (go_at_call 22; (with_reducible refine (HPR.out _ (by assumption)).mono ?_); rintro e w4 ⟨u4, rfl, ho4, hb4, hB4⟩; have hS4 := HC.out _ hB4; have hzz4 := hB4.size; have H4 := Lib.hid ho4; clear ho4; obtain ⟨hc4, hf4⟩ := bcell hb4; have hz4 := hb4.size; (try simp at hz4); (first | (have hx43 : w3.heap.size < w4.heap.size := by omega) | skip))
              | (go_at_call 53; (with_reducible refine (HPU.out _ _ (And.right (by assumption)) (by first | (with_reducible exact H4.out.rd) | (with_reducible exact (H4.out.rd.keep (one_alloc _ _).2)))).mono ?_); rintro e w5 ⟨u5, rfl, ho5, hb5, hB5⟩; have hS5 := HC.out _ hB5; have hzz5 := hB5.size; have H5 := Lib.hid ho5; clear ho5; obtain ⟨hc5, hf5⟩ := bcell hb5; have hz5 := hb5.size; (try simp at hz5); (first | (have hx53 : w3.heap.size < w5.heap.size := by omega) | skip); (first | (have hx54 : w4.heap.size < w5.heap.size := by omega) | skip))
              | (go_at_call 52; (with_reducible refine (HOF.out _ _ (And.right (by assumption)) (by first | (with_reducible exact H5.out.rd) | (with_reducible exact (H5.out.rd.keep (one_alloc _ _).2)))).mono ?_); rintro e w6 ⟨ka, va, kc, vc, rfl, ho6, hb6, hB6⟩; have hS6 := HC.out _ hB6; have hzz6 := hB6.size; have H6 := Lib.hid ho6; clear ho6; obtain ⟨hc6, hf6⟩ := bcell hb6; have hz6 := hb6.size; (try simp at hz6); (first | (have hx63 : w3.heap.size < w6.heap.size := by omega) | skip); (first | (have hx64 : w4.heap.size < w6.heap.size := by omega) | skip); (first | (have hx65 : w5.heap.size < w6.heap.size := by omega) | skip)))
          all_goals
            clear hc4 hf4 hc5 hf5 hc6 hf6
            have HR6 := Lib.hid (HR3.out.below hB6)
            have HB6 := Lib.hid (HBV.out.trans (hB6.mono HBV.out.size))
            have hz0 : w.heap.size + 2 ≤ w3.heap.size := by have := lt_of_block HR3.out; omega
            refine hK1 _ _ (Met.intro (hJ1 _ _ ?_))
            (repeat apply Exists.intro)
            refine ⟨?_, rfl⟩
            refine Lib.hid ?_
            (first
              | ((with_reducible refine out_new ?_ H6.out.1 H6.out.2 HR6.out HB6.out); omega)
              | ((with_reducible refine out_of ?_ ?_ H6.out.1 H6.out.2 HR6.out HB6.out)
                 · repeat' (first | (with_reducible exact NB.new _ _) | (with_reducible refine NB.below ?_ hb6) | (with_reducible refine NB.below ?_ hb5) | (with_reducible refine NB.below ?_ hb4) | (with_reducible refine NB.drew ?_))
                 · omega))
        case rest =>
          obtain ⟨g, ka, va, kc, vc, rfl, hg, hng, hk2, hv2, hr2, hb2⟩ := hcut.out
          have HNG := Lib.hid hng
          have HK2 := Lib.hid hk2
          have HV2 := Lib.hid hv2
          have HR2 := Lib.hid hr2
          have HBZ := Lib.hid hb2
          clear hcut hk2 hv2 hr2 hb2 HPR HPU HOF HTX HC
          obtain ⟨q0, q1, q2, q3, q4, q5, q6, q7⟩ := hng.cells
          by_cases hlen : (ks2.length : Int) ≤ fan
          · have HT : Hid (b = true) := Lib.hid (HBI.out.2 ⟨HKB.out, HIB.out, hlen⟩)
            have hlen2 : ¬ fan < (ks2.length : Int) := by omega
            obtain ⟨t0, t1, t2, t3, t4, t5, t6, t7⟩ := (HR2.out).cells
            have f0 := (HR2.out).frozen 0
            have f1 := (HR2.out).frozen 1
            have f2 := (HR2.out).frozen 2
            have f3 := (HR2.out).frozen 3
            have f4 := (HR2.out).frozen 4
            have f5 := (HR2.out).frozen 5
            have f6 := (HR2.out).frozen 6
            have f7 := (HR2.out).frozen 7
            go_wp2
            refine bodyPost_ret (v := .tuple #[.agg #[.int .i64 lv, .string lo, .string hi, .bool la, .int .i64 nx, .slice ka ks2.length kc, .slice va vs2.length vc, .slice ac cs.length cc], .bool true]) (by simp [results, Try.results13, go_sem, *]) rfl ?_
            rw [HT.out, HM.out]
            exact gaveR_out [(0, _), (1, _), (2, _), (3, _), (4, _), (5, _), (6, _), (7, _)] HK2.out HV2.out HR2.out HBZ.out HND.out.c
          · have HF : Hid (b = false) := Lib.hid (bool_no HBI.out (fun h => hlen h.2.2))
            have hlen2 : fan < (ks2.length : Int) := by omega
            obtain ⟨t0, t1, t2, t3, t4, t5, t6, t7⟩ := (HR2.out).cells
            have f0 := (HR2.out).frozen 0
            have f1 := (HR2.out).frozen 1
            have f2 := (HR2.out).frozen 2
            have f3 := (HR2.out).frozen 3
            have f4 := (HR2.out).frozen 4
            have f5 := (HR2.out).frozen 5
            have f6 := (HR2.out).frozen 6
            have f7 := (HR2.out).frozen 7
            go_wp2
            refine bodyPost_ret (v := .tuple #[.agg #[.int .i64 0, .string ⟨#[]⟩, .string ⟨#[]⟩, .bool false, .int .i64 0, .slice none 0 0, .slice none 0 0, .slice none 0 0], .bool false]) (by simp [results, Try.results13, go_sem, *]) rfl ?_
            rw [HF.out]
            exact GaveN.r (gave_none (wr5_below (w.heap.size + 1) w.heap.size (by omega) [(0, _), (1, _), (2, _), (3, _), (4, _), (5, _), (6, _), (7, _)] w wc HBZ.out))
end Go.Proofs.Ytnlghdkgejimpaa

namespace Go.Proofs.Ytnlghdkgejimpaa
open Go.RowKit

theorem Nod.or_no (n : Nod) : Nod.or false n = .none := rfl
theorem Nod.or_yes (n : Nod) : Nod.or true n = n := rfl
theorem NB.far8 {W : World} {A g : Nat} {cs : Array Value} (h : NB W A cs) (hne : A ≠ g) (v0 v1 v2 v3 v4 v5 v6 v7 : Value) : NB ((((((((W.setCell ⟨g, 0, none⟩ v0).setCell ⟨g, 1, none⟩ v1).setCell ⟨g, 2, none⟩ v2).setCell ⟨g, 3, none⟩ v3).setCell ⟨g, 4, none⟩ v4).setCell ⟨g, 5, none⟩ v5).setCell ⟨g, 6, none⟩ v6).setCell ⟨g, 7, none⟩ v7) A cs :=
  (wr5_far g A hne [(0, v0), (1, v1), (2, v2), (3, v3), (4, v4), (5, v5), (6, v6), (7, v7)] W).trans h

set_option maxHeartbeats 8000000 in
set_option maxRecDepth 100000 in
theorem rwithout_of (lv nx : Int) (lo hi : ByteArray) (la : Bool) (ak av ac : Option Addr) (ck cv cc : Nat) (ks : List ByteArray) (vs : List Nat) (cs : List Int) (k : ByteArray) (b : Bool) (w : World) (hN : NdAt w ak av ac ks.length ck vs.length cv cs.length cc ks vs cs) (hf : Fit lo hi ks ks.length vs.length cs.length) (hs : ks.length ≤ 200 ∧ vs.length ≤ 200 ∧ cs.length ≤ 200) (hb : b = true ↔ Nod.Leaf ⟨lv, nx, lo, hi, la, ks, vs, cs⟩ ∧ thereF ks k) :
    Calls Try.prog 15 #[.agg #[.int .i64 lv, .string lo, .string hi, .bool la, .int .i64 nx, .slice ak ks.length ck, .slice av vs.length cv, .slice ac cs.length cc], .string k] w fun e w' => GaveR w w' e b (Nod.or b (Nod.without ⟨lv, nx, lo, hi, la, ks, vs, cs⟩ k)) := by
  obtain ⟨n1, n2, hB⟩ := boxes2 w #[.int .i64 lv, .string lo, .string hi, .bool la, .int .i64 nx, .slice ak ks.length ck, .slice av vs.length cv, .slice ac cs.length cc] #[.int .i64 0, .string ⟨#[]⟩, .string ⟨#[]⟩, .bool false, .int .i64 0, .slice none 0 0, .slice none 0 0, .slice none 0 0]
  obtain ⟨w1, hw1⟩ : ∃ w1, w1 = (w.alloc (.cells #[.int .i64 lv, .string lo, .string hi, .bool la, .int .i64 nx, .slice ak ks.length ck, .slice av vs.length cv, .slice ac cs.length cc] 26)).alloc (.cells #[.int .i64 0, .string ⟨#[]⟩, .string ⟨#[]⟩, .bool false, .int .i64 0, .slice none 0 0, .slice none 0 0, .slice none 0 0] 26) := ⟨_, rfl⟩
  have HB : Hid (Below w.heap.size w w1) := Lib.hid (by rw [hw1]; exact hB)
  have HN1 : Hid (NB w1 w.heap.size #[.int .i64 lv, .string lo, .string hi, .bool la, .int .i64 nx, .slice ak ks.length ck, .slice av vs.length cv, .slice ac cs.length cc]) := Lib.hid (by rw [hw1]; exact n1)
  have HN2 : Hid (NB w1 (w.heap.size + 1) #[.int .i64 0, .string ⟨#[]⟩, .string ⟨#[]⟩, .bool false, .int .i64 0, .slice none 0 0, .slice none 0 0, .slice none 0 0]) := Lib.hid (by rw [hw1]; exact n2)
  have HSZ : Hid (w1.heap.size = w.heap.size + 1 + 1) := Lib.hid (by rw [hw1, World.size_alloc, World.size_alloc])
  have HW1 := Lib.hid hw1
  obtain ⟨q0, q1, q2, q3, q4, q5, q6, q7⟩ := HN1.out.cells
  obtain ⟨l, hl⟩ := bool_or (lv = 0 ∧ SoundP lv nx lo hi la ks.length vs.length cs.length ks cs 64)
  have HIS := Lib.hid (rleaf_of lv nx lo hi la ak av ac ks.length ck vs.length cv cs.length cc ks vs cs l w1 (hN.keep HB.out) hf hl)
  have HND := Lib.hid hN
  have HFT := Lib.hid hf
  have HSM := Lib.hid hs
  have HLL := Lib.hid hl
  have HBB := Lib.hid hb
  clear hN hf hs hb hl hw1 n1 n2 hB
  go_enter Try.func15, Try.ntmps15
  go_wp2_with fail
  rw [← HW1.out]
  refine HIS.out.mono ?_
  rintro e w2 ⟨rfl, hb2⟩
  have HB2 := Lib.hid hb2
  have HRB := Lib.hid (HN2.out.below HB2.out)
  have HBW := Lib.hid (HB.out.trans (HB2.out.mono HB.out.size))
  clear hb2
  cases l with
  | false =>
    have HF : Hid (b = false) := Lib.hid (bool_no HBB.out (fun h => by have := HLL.out.2 h.1; cases this))
    obtain ⟨t0, t1, t2, t3, t4, t5, t6, t7⟩ := (HRB.out).cells
    have f0 := (HRB.out).frozen 0
    have f1 := (HRB.out).frozen 1
    have f2 := (HRB.out).frozen 2
    have f3 := (HRB.out).frozen 3
    have f4 := (HRB.out).frozen 4
    have f5 := (HRB.out).frozen 5
    have f6 := (HRB.out).frozen 6
    have f7 := (HRB.out).frozen 7
    go_wp2
    refine bodyPost_ret (v := .tuple #[.agg #[.int .i64 0, .string ⟨#[]⟩, .string ⟨#[]⟩, .bool false, .int .i64 0, .slice none 0 0, .slice none 0 0, .slice none 0 0], .bool false]) (by simp [results, Try.results15, go_sem, *]) rfl ?_
    rw [HF.out, Nod.or_no]
    exact GaveN.r (gave_none (wr5_below (w.heap.size + 1) w.heap.size (by omega) [(0, _), (1, _), (2, _), (3, _), (4, _), (5, _), (6, _), (7, _)] w w2 HBW.out))
  | true =>
    have HS := Lib.hid (HLL.out.1 rfl)
    have HLE := Lib.hid (HS.out.2.entries.leaf HS.out.1)
    have HRI := Lib.hid HS.out.2.keys.rise
    have HPL := Lib.hid (prs_len HLE.out.1)
    have HPR := Lib.hid (fun W h => rpairs_any lv nx lo hi la ak av ac ck cv cc ks vs cs W h HLE.out.1 (by have := HFT.out.n; omega))
    have HGE := Lib.hid (fun u W h => rget_any u k (prs ks vs) W h)
    have HTH : Hid ((getP (prs ks vs) k).2 = true ↔ thereF ks k) := Lib.hid (prs_there HRI.out HLE.out.1 k)
    have HTX := Lib.hid (prs_texts HLE.out.1 HFT.out.ks)
    generalize getP (prs ks vs) k = gp at HGE HTH
    obtain ⟨z, tb⟩ := gp
    simp only at HGE HTH
    obtain ⟨q0, q1, q2, q3, q4, q5, q6, q7⟩ := (HN1.out.below HB2.out).cells
    go_wp2_with fail
    refine (HPR.out _ ((HND.out.keep HBW.out))).mono ?_
    rintro e w3 ⟨m, rfl, ho3, hb3⟩
    have HO3 := Lib.hid ho3
    have HB3 := Lib.hid (HB2.out.trans (hb3.mono HB2.out.size))
    clear ho3 hb3 q0 q1 q2 q3 q4 q5 q6 q7
    have HR3 := Lib.hid (HN2.out.below HB3.out)
    have HBV := Lib.hid (HB.out.trans (HB3.out.mono HB.out.size))
    go_wp2_with fail
    refine (HGE.out _ _ HO3.out.rd).mono ?_
    rintro e wx ⟨rfl, hwx⟩
    rw [hwx]
    clear HGE hwx
    cases tb with
    | false =>
      have HF : Hid (b = false) := Lib.hid (bool_no HBB.out (fun h => by have := HTH.out.2 h.2; cases this))
      obtain ⟨t0, t1, t2, t3, t4, t5, t6, t7⟩ := (HR3.out).cells
      have f0 := (HR3.out).frozen 0
      have f1 := (HR3.out).frozen 1
      have f2 := (HR3.out).frozen 2
      have f3 := (HR3.out).frozen 3
      have f4 := (HR3.out).frozen 4
      have f5 := (HR3.out).frozen 5
      have f6 := (HR3.out).frozen 6
      have f7 := (HR3.out).frozen 7
      go_wp2
      refine bodyPost_ret (v := .tuple #[.agg #[.int .i64 0, .string ⟨#[]⟩, .string ⟨#[]⟩, .bool false, .int .i64 0, .slice none 0 0, .slice none 0 0, .slice none 0 0], .bool false]) (by simp [results, Try.results15, go_sem, *]) rfl ?_
      rw [HF.out, Nod.or_no]
      exact GaveN.r (gave_none (wr5_below (w.heap.size + 1) w.heap.size (by omega) [(0, _), (1, _), (2, _), (3, _), (4, _), (5, _), (6, _), (7, _)] w w3 HBV.out))
    | true =>
      have HTT := Lib.hid (HTH.out.1 rfl)
      have HT : Hid (b = true) := Lib.hid (HBB.out.2 ⟨HS.out, HTT.out⟩)
      obtain ⟨ks2, vs2, hm, hmk, hml, hmv⟩ := Nod.without_rows lv nx lo hi la ks vs cs k
      have hkept := prs_without (n := ⟨lv, nx, lo, hi, la, ks, vs, cs⟩) HS.out.1 HS.out.2 HTT.out
      have hlens := without_lens (n := ⟨lv, nx, lo, hi, la, ks, vs, cs⟩) HLE.out.1 HTT.out
      rw [hm] at hkept hlens
      simp only at hkept hlens
      have HM := Lib.hid hm
      have HC : Hid (∀ W, Below w3.heap.size w3 W → ((W.cell? ⟨w.heap.size, 0, none⟩ = some (.int .i64 lv) ∧ W.cell? ⟨w.heap.size, 1, none⟩ = some (.string lo) ∧ W.cell? ⟨w.heap.size, 2, none⟩ = some (.string hi) ∧ W.cell? ⟨w.heap.size, 3, none⟩ = some (.bool la) ∧ W.cell? ⟨w.heap.size, 4, none⟩ = some (.int .i64 nx) ∧ W.cell? ⟨w.heap.size, 5, none⟩ = some (.slice ak ks.length ck) ∧ W.cell? ⟨w.heap.size, 6, none⟩ = some (.slice av vs.length cv) ∧ W.cell? ⟨w.heap.size, 7, none⟩ = some (.slice ac cs.length cc)) ∧ Below w3.heap.size w3 W)) := Lib.hid (fun W h => ⟨((HN1.out.below HB3.out).below h).cells, h⟩)
      have HDE : Hid (∀ W, Below w3.heap.size w3 W → Calls Try.prog 57 #[m, .string k] W fun e w' => ∃ u, e = .returned u ∧ OwnP w' w3.heap.size u (delP (prs ks vs) k) ∧ Below W.heap.size W w' ∧ Below w3.heap.size w3 w') := Lib.hid (fun W h => (rdelete_any m k (prs ks vs) W (HO3.out.rd.keep h) (by rw [HPL.out]; have := HFT.out.n; omega)).mono (fun e w' hc => by
        obtain ⟨u, rfl, ho, hb⟩ := hc
        exact ⟨u, rfl, ho.base h.size, hb, h.trans (hb.mono h.size)⟩))
      have HOF : Hid (∀ W u, Below w3.heap.size w3 W → RdP W u (delP (prs ks vs) k) → Calls Try.prog 52 #[.agg #[.int .i64 lv, .string lo, .string hi, .bool la, .int .i64 nx, .slice ak ks.length ck, .slice av vs.length cv, .slice ac cs.length cc], u] W fun e w' => ∃ (ka va : Option Addr) (kc vc : Nat), e = .returned (.agg #[.int .i64 lv, .string lo, .string hi, .bool la, .int .i64 nx, .slice ka ks2.length kc, .slice va vs2.length vc, .slice ac cs.length cc]) ∧
          (OwnR w' (w.heap.size + 2) 9 (.slice ka ks2.length kc) (ks2.map Value.string) ∧ OwnR w' (w.heap.size + 2) 27 (.slice va vs2.length vc) (vs2.map uv)) ∧ Below W.heap.size W w' ∧ Below w3.heap.size w3 w') := Lib.hid (fun W u h hr => (rof_any lv nx lo hi la ak av ac ck cv cc ks vs cs u _ (prs ks2 vs2) W hr hkept.same hkept.rise hkept.len (by rw [hkept.len, prs_len hlens]; have := HSM.out; omega) (fun p hp => by
          have hp2 := (hkept.same p).1 hp
          exact prs_texts hlens (fun x hx => HFT.out.ks x (hmk x hx)) p hp2)).mono (fun e w' hc => by
        obtain ⟨ka, va, kc, vc, rfl, h1, h2, hb⟩ := hc
        rw [prs_len hlens] at h1 h2 ⊢
        rw [kOf_prs hlens] at h1
        rw [vOf_prs hlens] at h2
        have hB2 : w.heap.size + 2 ≤ W.heap.size := by have := lt_of_block HR3.out; have := h.size; omega
        refine ⟨ka, va, kc, vc, by rw [hlens], ⟨?_, ?_⟩, hb, h.trans (hb.mono h.size)⟩
        · unfold OwnR; rw [List.length_map]
          exact own_base h1 (by omega)
        · unfold OwnR; rw [List.length_map, hlens]
          exact own_base h2 (by omega)))
      clear hm hmk hml hmv hkept hlens
      go_upto_region 7 with fail
      have hS0 := HC.out w3.drew (Below.refl _ _).drew
      have HRR := Lib.hid (fun W (h : Below w3.heap.size w3 W) => (HR3.out.below h).cells)
      have HRF := Lib.hid (fun W (h : Below w3.heap.size w3 W) => (HR3.out.below h).frozen)
      go_region_held_law (fun W => (W.cell? ⟨w.heap.size, 0, none⟩ = some (.int .i64 lv) ∧ W.cell? ⟨w.heap.size, 1, none⟩ = some (.string lo) ∧ W.cell? ⟨w.heap.size, 2, none⟩ = some (.string hi) ∧ W.cell? ⟨w.heap.size, 3, none⟩ = some (.bool la) ∧ W.cell? ⟨w.heap.size, 4, none⟩ = some (.int .i64 nx) ∧ W.cell? ⟨w.heap.size, 5, none⟩ = some (.slice ak ks.length ck) ∧ W.cell? ⟨w.heap.size, 6, none⟩ = some (.slice av vs.length cv) ∧ W.cell? ⟨w.heap.size, 7, none⟩ = some (.slice ac cs.length cc)))
        (first | (with_reducible exact hS0.1) | (with_reducible exact hS5.1) | (with_reducible exact hS6.1) | (with_reducible exact (NB.far8 ((HN1.out.below HB3.out).below hB6) (by omega) _ _ _ _ _ _ _ _).cells))
        (first
          | (go_at_call 57; (with_reducible refine (HDE.out _ ((Below.refl w3.heap.size w3).drew)).mono ?_); rintro e w5 ⟨u5, rfl, ho5, hb5, hB5⟩; have hS5 := HC.out _ hB5; have H5 := Lib.hid ho5; clear ho5)
          | (go_at_call 52; (with_reducible refine (HOF.out _ _ hB5 H5.out.rd).mono ?_); rintro e w6 ⟨ka, va, kc, vc, rfl, ho6, hb6, hB6⟩; have hS6 := HC.out _ hB6; have H6 := Lib.hid ho6; have hzz6 := hB6.size; have hz3 : w.heap.size + 1 < w3.heap.size := lt_of_block HR3.out; clear ho6; obtain ⟨t0, t1, t2, t3, t4, t5, t6, t7⟩ := HRR.out _ hB6; have f0 := HRF.out _ hB6 0; have f1 := HRF.out _ hB6 1; have f2 := HRF.out _ hB6 2; have f3 := HRF.out _ hB6 3; have f4 := HRF.out _ hB6 4; have f5 := HRF.out _ hB6 5; have f6 := HRF.out _ hB6 6; have f7 := HRF.out _ hB6 7))
      clear hS0 hS5 hS6
      go_wp2
      refine bodyPost_ret (v := .tuple #[.agg #[.int .i64 lv, .string lo, .string hi, .bool la, .int .i64 nx, .slice ka ks2.length kc, .slice va vs2.length vc, .slice ac cs.length cc], .bool true]) (by simp [results, Try.results15, go_sem, *]) rfl ?_
      rw [HT.out, Nod.or_yes, HM.out]
      exact gaveR_out [(0, _), (1, _), (2, _), (3, _), (4, _), (5, _), (6, _), (7, _)] H6.out.1 H6.out.2 (HR3.out.below hB6) (HBV.out.trans (hB6.mono HBV.out.size)) HND.out.c
end Go.Proofs.Ytnlghdkgejimpaa

namespace Go.Proofs.Ytnlghdkgejimpaa
open Go.RowKit

/-- The document's Same of one node, twice. -/
theorem rsame_eq (n : Nod) (ak av ac ak2 av2 ac2 : Option Addr) (ck cv cc ck2 cv2 cc2 : Nat) (w : World) (hN : NdAt w ak av ac n.ks.length ck n.vs.length cv n.cs.length cc n.ks n.vs n.cs) (hM : NdAt w ak2 av2 ac2 n.ks.length ck2 n.vs.length cv2 n.cs.length cc2 n.ks n.vs n.cs) :
    Calls Try.prog 16 #[.agg #[.int .i64 n.lv, .string n.lo, .string n.hi, .bool n.la, .int .i64 n.nx, .slice ak n.ks.length ck, .slice av n.vs.length cv, .slice ac n.cs.length cc], .agg #[.int .i64 n.lv, .string n.lo, .string n.hi, .bool n.la, .int .i64 n.nx, .slice ak2 n.ks.length ck2, .slice av2 n.vs.length cv2, .slice ac2 n.cs.length cc2]] w fun e w' => e = .returned (.bool true) ∧ Below w.heap.size w w' :=
  rnsame_of n.lv n.nx n.lo n.hi n.la ak av ac n.ks.length ck n.vs.length cv n.cs.length cc n.lv n.nx n.lo n.hi n.la ak2 av2 ac2 n.ks.length ck2 n.vs.length cv2 n.cs.length cc2 n.ks n.vs n.cs n.ks n.vs n.cs true w hN hM ⟨fun _ => ⟨rfl, rfl, rfl, rfl, rfl, rfl, rfl, rfl⟩, fun _ => rfl⟩

set_option maxHeartbeats 8000000 in
set_option maxRecDepth 100000 in
theorem leafsTurn_any (lv nx : Int) (lo hi : ByteArray) (la : Bool) (ak av ac : Option Addr) (ck cv cc : Nat) (ks : List ByteArray) (vs : List Nat) (cs : List Int) (k : ByteArray) (v : Nat) (fan : Int) (w : World) (hN : NdAt w ak av ac ks.length ck vs.length cv cs.length cc ks vs cs) :
    Calls Try.prog 3 #[.agg #[.int .i64 lv, .string lo, .string hi, .bool la, .int .i64 nx, .slice ak ks.length ck, .slice av vs.length cv, .slice ac cs.length cc], .string k, .int .u64 v, .int .i64 fan] w fun e w' => e = .returned (.bool true) ∧ Below w.heap.size w w' := by
  have HB := Lib.hid (boxed_below w (.cells #[.int .i64 lv, .string lo, .string hi, .bool la, .int .i64 nx, .slice ak ks.length ck, .slice av vs.length cv, .slice ac cs.length cc] 26))
  have HNB := Lib.hid (NB.new w #[.int .i64 lv, .string lo, .string hi, .bool la, .int .i64 nx, .slice ak ks.length ck, .slice av vs.length cv, .slice ac cs.length cc])
  have HND := Lib.hid (hN.keep HB.out)
  obtain ⟨w1, hw1⟩ : ∃ w1, w1 = w.alloc (.cells #[.int .i64 lv, .string lo, .string hi, .bool la, .int .i64 nx, .slice ak ks.length ck, .slice av vs.length cv, .slice ac cs.length cc] 26) := ⟨_, rfl⟩
  rw [← hw1] at HB HNB HND
  have HW1 := Lib.hid hw1
  have HL := Lib.hid (nlight_any lv nx lo hi la ak av ac ks.length ck vs.length cv cs.length cc ks w1 HND.out.k (by have := rd_len hN.v; omega) (by have := rd_len hN.c; omega))
  have HLV := Lib.hid lives11_any
  obtain ⟨q0, q1, q2, q3, q4, q5, q6, q7⟩ := HNB.out.cells
  clear hN hw1
  go_enter Try.func3, Try.ntmps3
  go_wp2_with fail
  rw [← HW1.out]
  refine HL.out.mono ?_
  rintro e w2 ⟨r, rfl, hr, hb2⟩
  have HP := Lib.hid hr
  have Hn := Lib.hid hb2
  clear hr hb2 q0 q1 q2 q3 q4 q5 q6 q7 HL HW1
  obtain ⟨q0, q1, q2, q3, q4, q5, q6, q7⟩ := (HNB.out.below Hn.out).cells
  cases r with
  | false =>
    have HE := Lib.hid (HB.out.trans (Hn.out.mono HB.out.size))
    go_wp2_with fail
    refine (HLV.out _).mono ?_
    rintro e wl ⟨rfl, hbl⟩
    have HBL := Lib.hid (HE.out.trans (hbl.mono HE.out.size))
    clear hbl
    go_wp2
    go_ret
    exact ⟨rfl, HBL.out⟩
  | true =>
    have HLP := Lib.hid (HP.out.1 rfl)
    have HFT := Lib.hid (fit_of_light HLP.out)
    by_cases hk : 100 < k.size
    case pos =>
      have hk2 : (100 : Int) < k.size := by omega
      have HE := Lib.hid (HB.out.trans (Hn.out.mono HB.out.size))
      go_wp2_with fail
      refine (HLV.out _).mono ?_
      rintro e wl ⟨rfl, hbl⟩
      have HBL := Lib.hid (HE.out.trans (hbl.mono HE.out.size))
      clear hbl
      go_wp2
      go_ret
      exact ⟨rfl, HBL.out⟩
    case neg =>
      have hk2 : (k.size : Int) ≤ 100 := by omega
      have hks : k.size ≤ 140737488355328 := by omega
      have HS2 : Hid (ks.length ≤ 200 ∧ vs.length ≤ 200 ∧ cs.length ≤ 200) := Lib.hid (by have := HLP.out.n; omega)
      obtain ⟨b, hb⟩ := bool_or (Nod.WithP ⟨lv, nx, lo, hi, la, ks, vs, cs⟩ k v fan)
      obtain ⟨c, hc⟩ := bool_or (Nod.Leaf ⟨lv, nx, lo, hi, la, ks, vs, cs⟩ ∧ thereF ks k)
      have HCL := Lib.hid (nclone_any lv nx lo hi la ak av ac ks.length ck vs.length cv cs.length cc ks vs cs)
      have HWI := Lib.hid (fun W (h : Below w1.heap.size w1 W) => with_of lv nx lo hi la ak av ac ck cv cc ks vs cs k v fan b W (HND.out.keep h) HFT.out HS2.out hks hb)
      have HRW := Lib.hid (fun ko vo co W h => rwith_of lv nx lo hi la ko vo co ks.length vs.length cs.length ks vs cs k v fan b W h HFT.out HS2.out hks hb)
      have HWO := Lib.hid (fun W (h : Below w1.heap.size w1 W) => without_of lv nx lo hi la ak av ac ck cv cc ks vs cs k c W (HND.out.keep h) HFT.out HS2.out hks hc)
      have HRO := Lib.hid (fun ko vo co W h => rwithout_of lv nx lo hi la ko vo co ks.length vs.length cs.length ks vs cs k c W h HFT.out HS2.out hc)
      have HSE := Lib.hid rsame_eq
      generalize Nod.or b (Nod.with ⟨lv, nx, lo, hi, la, ks, vs, cs⟩ k v) = pw at HWI HRW
      generalize Nod.or c (Nod.without ⟨lv, nx, lo, hi, la, ks, vs, cs⟩ k) = pq at HWO HRO
      clear hb hc hks hk
      go_wp2_with fail
      refine (HCL.out _ (HND.out.keep Hn.out) (by have := HS2.out; omega)).mono ?_
      rintro e w3 ⟨kv, vv, cv2, rfl, hk1, hk2', hk3, hb3⟩
      obtain ⟨ko, rfl⟩ := hk1.open
      obtain ⟨vo, rfl⟩ := hk2'.open
      obtain ⟨co, rfl⟩ := hk3.open
      rw [List.length_map] at hk1 hk2' hk3
      rw [List.length_map, List.length_map, List.length_map]
      have hnd3 : NdAt w3 ko vo co ks.length ks.length vs.length vs.length cs.length cs.length ks vs cs := ⟨hk1.rd (by rw [List.length_map]; have := HS2.out; omega), hk2'.rd (by rw [List.length_map]; have := HS2.out; omega), hk3.rd (by rw [List.length_map]; have := HS2.out; omega)⟩
      clear hk1 hk2' hk3 q0 q1 q2 q3 q4 q5 q6 q7 HCL
      obtain ⟨W3, hW3⟩ : ∃ W, W = w3.alloc (.cells #[.int .i64 lv, .string lo, .string hi, .bool la, .int .i64 nx, .slice ko ks.length ks.length, .slice vo vs.length vs.length, .slice co cs.length cs.length] 26) := ⟨_, rfl⟩
      have hx3 := boxed_below w3 (.cells #[.int .i64 lv, .string lo, .string hi, .bool la, .int .i64 nx, .slice ko ks.length ks.length, .slice vo vs.length vs.length, .slice co cs.length cs.length] 26)
      have HX3 : Hid (NB W3 w3.heap.size #[.int .i64 lv, .string lo, .string hi, .bool la, .int .i64 nx, .slice ko ks.length ks.length, .slice vo vs.length vs.length, .slice co cs.length cs.length]) := Lib.hid (by rw [hW3]; exact NB.new _ _)
      rw [← hW3] at hx3
      have HY3 := Lib.hid (hnd3.keep hx3)
      have HZ3 := Lib.hid (hb3.trans (hx3.mono hb3.size))
      have HW3 := Lib.hid hW3
      have Hn_3 := Lib.hid (Hn.out.trans (HZ3.out.mono Hn.out.size))
      clear hW3 hx3 hnd3 hb3 Hn
      have HS3 : Hid (Below W3.heap.size W3 W3) := Lib.hid (Below.refl _ _)
      go_upto_region 4 with fail
      rw [← HW3.out]
      clear HW3
      obtain ⟨q0, q1, q2, q3, q4, q5, q6, q7⟩ := (HNB.out.below Hn_3.out).cells
      go_wp2_with fail
      refine (HWI.out _ Hn_3.out).mono ?_
      rintro e w4 ⟨ak4, av4, ac4, ck4, cv4, cc4, rfl, hnd4, hb4, _⟩
      clear q0 q1 q2 q3 q4 q5 q6 q7
      obtain ⟨W4, hW4⟩ : ∃ W, W = w4.alloc (.cells #[.int .i64 pw.lv, .string pw.lo, .string pw.hi, .bool pw.la, .int .i64 pw.nx, .slice ak4 pw.ks.length ck4, .slice av4 pw.vs.length cv4, .slice ac4 pw.cs.length cc4] 26) := ⟨_, rfl⟩
      have hx4 := boxed_below w4 (.cells #[.int .i64 pw.lv, .string pw.lo, .string pw.hi, .bool pw.la, .int .i64 pw.nx, .slice ak4 pw.ks.length ck4, .slice av4 pw.vs.length cv4, .slice ac4 pw.cs.length cc4] 26)
      have HX4 : Hid (NB W4 w4.heap.size #[.int .i64 pw.lv, .string pw.lo, .string pw.hi, .bool pw.la, .int .i64 pw.nx, .slice ak4 pw.ks.length ck4, .slice av4 pw.vs.length cv4, .slice ac4 pw.cs.length cc4]) := Lib.hid (by rw [hW4]; exact NB.new _ _)
      rw [← hW4] at hx4
      have HY4 := Lib.hid (hnd4.keep hx4)
      have HZ4 := Lib.hid (hb4.trans (hx4.mono hb4.size))
      have HW4 := Lib.hid hW4
      have Hn_4 := Lib.hid (Hn_3.out.trans (HZ4.out.mono Hn_3.out.size))
      have HS3_4 := Lib.hid (HS3.out.trans (HZ4.out.mono HS3.out.size))
      clear hW4 hx4 hnd4 hb4 Hn_3 HS3
      have HS4 : Hid (Below W4.heap.size W4 W4) := Lib.hid (Below.refl _ _)
      go_upto_region 5 with fail
      rw [← HW4.out]
      clear HW4
      obtain ⟨t0, t1, t2, t3, t4, t5, t6, t7⟩ := (HX3.out.below HS3_4.out).cells
      go_wp2_with fail
      refine (HRW.out ko vo co _ (HY3.out.keep HS3_4.out)).mono ?_
      rintro e w5 ⟨ak5, av5, ac5, ck5, cv5, cc5, rfl, hnd5, hb5⟩
      clear t0 t1 t2 t3 t4 t5 t6 t7
      obtain ⟨W5, hW5⟩ : ∃ W, W = w5.alloc (.cells #[.int .i64 pw.lv, .string pw.lo, .string pw.hi, .bool pw.la, .int .i64 pw.nx, .slice ak5 pw.ks.length ck5, .slice av5 pw.vs.length cv5, .slice ac5 pw.cs.length cc5] 26) := ⟨_, rfl⟩
      have hx5 := boxed_below w5 (.cells #[.int .i64 pw.lv, .string pw.lo, .string pw.hi, .bool pw.la, .int .i64 pw.nx, .slice ak5 pw.ks.length ck5, .slice av5 pw.vs.length cv5, .slice ac5 pw.cs.length cc5] 26)
      have HX5 : Hid (NB W5 w5.heap.size #[.int .i64 pw.lv, .string pw.lo, .string pw.hi, .bool pw.la, .int .i64 pw.nx, .slice ak5 pw.ks.length ck5, .slice av5 pw.vs.length cv5, .slice ac5 pw.cs.length cc5]) := Lib.hid (by rw [hW5]; exact NB.new _ _)
      rw [← hW5] at hx5
      have HY5 := Lib.hid (hnd5.keep hx5)
      have HZ5 := Lib.hid (hb5.trans (hx5.mono hb5.size))
      have HW5 := Lib.hid hW5
      have Hn_5 := Lib.hid (Hn_4.out.trans (HZ5.out.mono Hn_4.out.size))
      have HS3_5 := Lib.hid (HS3_4.out.trans (HZ5.out.mono HS3_4.out.size))
      have HS4_5 := Lib.hid (HS4.out.trans (HZ5.out.mono HS4.out.size))
      clear hW5 hx5 hnd5 hb5 Hn_4 HS3_4 HS4
      have HS5 : Hid (Below W5.heap.size W5 W5) := Lib.hid (Below.refl _ _)
      go_upto_region 6 with fail
      rw [← HW5.out]
      clear HW5
      obtain ⟨q0, q1, q2, q3, q4, q5, q6, q7⟩ := (HNB.out.below Hn_5.out).cells
      go_wp2_with fail
      refine (HWO.out _ Hn_5.out).mono ?_
      rintro e w6 ⟨ak6, av6, ac6, ck6, cv6, cc6, rfl, hnd6, hb6, _⟩
      clear q0 q1 q2 q3 q4 q5 q6 q7
      obtain ⟨W6, hW6⟩ : ∃ W, W = w6.alloc (.cells #[.int .i64 pq.lv, .string pq.lo, .string pq.hi, .bool pq.la, .int .i64 pq.nx, .slice ak6 pq.ks.length ck6, .slice av6 pq.vs.length cv6, .slice ac6 pq.cs.length cc6] 26) := ⟨_, rfl⟩
      have hx6 := boxed_below w6 (.cells #[.int .i64 pq.lv, .string pq.lo, .string pq.hi, .bool pq.la, .int .i64 pq.nx, .slice ak6 pq.ks.length ck6, .slice av6 pq.vs.length cv6, .slice ac6 pq.cs.length cc6] 26)
      have HX6 : Hid (NB W6 w6.heap.size #[.int .i64 pq.lv, .string pq.lo, .string pq.hi, .bool pq.la, .int .i64 pq.nx, .slice ak6 pq.ks.length ck6, .slice av6 pq.vs.length cv6, .slice ac6 pq.cs.length cc6]) := Lib.hid (by rw [hW6]; exact NB.new _ _)
      rw [← hW6] at hx6
      have HY6 := Lib.hid (hnd6.keep hx6)
      have HZ6 := Lib.hid (hb6.trans (hx6.mono hb6.size))
      have HW6 := Lib.hid hW6
      have Hn_6 := Lib.hid (Hn_5.out.trans (HZ6.out.mono Hn_5.out.size))
      have HS3_6 := Lib.hid (HS3_5.out.trans (HZ6.out.mono HS3_5.out.size))
      have HS4_6 := Lib.hid (HS4_5.out.trans (HZ6.out.mono HS4_5.out.size))
      have HS5_6 := Lib.hid (HS5.out.trans (HZ6.out.mono HS5.out.size))
      clear hW6 hx6 hnd6 hb6 Hn_5 HS3_5 HS4_5 HS5
      have HS6 : Hid (Below W6.heap.size W6 W6) := Lib.hid (Below.refl _ _)
      go_upto_region 7 with fail
      rw [← HW6.out]
      clear HW6
      obtain ⟨t0, t1, t2, t3, t4, t5, t6, t7⟩ := (HX3.out.below HS3_6.out).cells
      go_wp2_with fail
      refine (HRO.out ko vo co _ (HY3.out.keep HS3_6.out)).mono ?_
      rintro e w7 ⟨ak7, av7, ac7, ck7, cv7, cc7, rfl, hnd7, hb7⟩
      clear t0 t1 t2 t3 t4 t5 t6 t7
      obtain ⟨W7, hW7⟩ : ∃ W, W = w7.alloc (.cells #[.int .i64 pq.lv, .string pq.lo, .string pq.hi, .bool pq.la, .int .i64 pq.nx, .slice ak7 pq.ks.length ck7, .slice av7 pq.vs.length cv7, .slice ac7 pq.cs.length cc7] 26) := ⟨_, rfl⟩
      have hx7 := boxed_below w7 (.cells #[.int .i64 pq.lv, .string pq.lo, .string pq.hi, .bool pq.la, .int .i64 pq.nx, .slice ak7 pq.ks.length ck7, .slice av7 pq.vs.length cv7, .slice ac7 pq.cs.length cc7] 26)
      have HX7 : Hid (NB W7 w7.heap.size #[.int .i64 pq.lv, .string pq.lo, .string pq.hi, .bool pq.la, .int .i64 pq.nx, .slice ak7 pq.ks.length ck7, .slice av7 pq.vs.length cv7, .slice ac7 pq.cs.length cc7]) := Lib.hid (by rw [hW7]; exact NB.new _ _)
      rw [← hW7] at hx7
      have HY7 := Lib.hid (hnd7.keep hx7)
      have HZ7 := Lib.hid (hb7.trans (hx7.mono hb7.size))
      have HW7 := Lib.hid hW7
      have Hn_7 := Lib.hid (Hn_6.out.trans (HZ7.out.mono Hn_6.out.size))
      have HS3_7 := Lib.hid (HS3_6.out.trans (HZ7.out.mono HS3_6.out.size))
      have HS4_7 := Lib.hid (HS4_6.out.trans (HZ7.out.mono HS4_6.out.size))
      have HS5_7 := Lib.hid (HS5_6.out.trans (HZ7.out.mono HS5_6.out.size))
      have HS6_7 := Lib.hid (HS6.out.trans (HZ7.out.mono HS6.out.size))
      clear hW7 hx7 hnd7 hb7 Hn_6 HS3_6 HS4_6 HS5_6 HS6
      have HS7 : Hid (Below W7.heap.size W7 W7) := Lib.hid (Below.refl _ _)
      go_upto_region 8 with fail
      rw [← HW7.out]
      clear HW7
      obtain ⟨q0, q1, q2, q3, q4, q5, q6, q7⟩ := (HX4.out.below HS4_7.out).cells
      obtain ⟨t0, t1, t2, t3, t4, t5, t6, t7⟩ := (HX5.out.below HS5_7.out).cells
      go_wp2_with fail
      refine (HSE.out pw ak4 av4 ac4 ak5 av5 ac5 ck4 cv4 cc4 ck5 cv5 cc5 _ (HY4.out.keep HS4_7.out) (HY5.out.keep HS5_7.out)).mono ?_
      rintro e w8 ⟨rfl, hb8⟩
      have Hn_8 := Lib.hid (Hn_7.out.trans (hb8.mono Hn_7.out.size))
      have HS3_8 := Lib.hid (HS3_7.out.trans (hb8.mono HS3_7.out.size))
      have HS4_8 := Lib.hid (HS4_7.out.trans (hb8.mono HS4_7.out.size))
      have HS5_8 := Lib.hid (HS5_7.out.trans (hb8.mono HS5_7.out.size))
      have HS6_8 := Lib.hid (HS6_7.out.trans (hb8.mono HS6_7.out.size))
      have HS7_8 := Lib.hid (HS7.out.trans (hb8.mono HS7.out.size))
      clear hb8 Hn_7 HS3_7 HS4_7 HS5_7 HS6_7 HS7
      clear q0 q1 q2 q3 q4 q5 q6 q7
      clear t0 t1 t2 t3 t4 t5 t6 t7
      obtain ⟨q0, q1, q2, q3, q4, q5, q6, q7⟩ := (HX6.out.below HS6_8.out).cells
      obtain ⟨t0, t1, t2, t3, t4, t5, t6, t7⟩ := (HX7.out.below HS7_8.out).cells
      go_wp2_with fail
      refine (HSE.out pq ak6 av6 ac6 ak7 av7 ac7 ck6 cv6 cc6 ck7 cv7 cc7 _ (HY6.out.keep HS6_8.out) (HY7.out.keep HS7_8.out)).mono ?_
      rintro e w9 ⟨rfl, hb9⟩
      have Hn_9 := Lib.hid (Hn_8.out.trans (hb9.mono Hn_8.out.size))
      have HS3_9 := Lib.hid (HS3_8.out.trans (hb9.mono HS3_8.out.size))
      have HS4_9 := Lib.hid (HS4_8.out.trans (hb9.mono HS4_8.out.size))
      have HS5_9 := Lib.hid (HS5_8.out.trans (hb9.mono HS5_8.out.size))
      have HS6_9 := Lib.hid (HS6_8.out.trans (hb9.mono HS6_8.out.size))
      have HS7_9 := Lib.hid (HS7_8.out.trans (hb9.mono HS7_8.out.size))
      clear hb9 Hn_8 HS3_8 HS4_8 HS5_8 HS6_8 HS7_8
      clear q0 q1 q2 q3 q4 q5 q6 q7
      clear t0 t1 t2 t3 t4 t5 t6 t7
      obtain ⟨q0, q1, q2, q3, q4, q5, q6, q7⟩ := (HNB.out.below Hn_9.out).cells
      obtain ⟨t0, t1, t2, t3, t4, t5, t6, t7⟩ := (HX3.out.below HS3_9.out).cells
      go_wp2_with fail
      refine (HSE.out ⟨lv, nx, lo, hi, la, ks, vs, cs⟩ ak av ac ko vo co ck cv cc ks.length vs.length cs.length _ (HND.out.keep Hn_9.out) (HY3.out.keep HS3_9.out)).mono ?_
      rintro e w10 ⟨rfl, hb10⟩
      have Hn_10 := Lib.hid (Hn_9.out.trans (hb10.mono Hn_9.out.size))
      have HS3_10 := Lib.hid (HS3_9.out.trans (hb10.mono HS3_9.out.size))
      have HS4_10 := Lib.hid (HS4_9.out.trans (hb10.mono HS4_9.out.size))
      have HS5_10 := Lib.hid (HS5_9.out.trans (hb10.mono HS5_9.out.size))
      have HS6_10 := Lib.hid (HS6_9.out.trans (hb10.mono HS6_9.out.size))
      have HS7_10 := Lib.hid (HS7_9.out.trans (hb10.mono HS7_9.out.size))
      clear hb10 Hn_9 HS3_9 HS4_9 HS5_9 HS6_9 HS7_9
      clear q0 q1 q2 q3 q4 q5 q6 q7
      clear t0 t1 t2 t3 t4 t5 t6 t7
      have HE := Lib.hid (HB.out.trans (Hn_10.out.mono HB.out.size))
      go_wp2_with fail
      refine (HLV.out _).mono ?_
      rintro e wl ⟨rfl, hbl⟩
      have HBL := Lib.hid (HE.out.trans (hbl.mono HE.out.size))
      clear hbl
      go_wp2
      go_ret
      exact ⟨rfl, HBL.out⟩
end Go.Proofs.Ytnlghdkgejimpaa
