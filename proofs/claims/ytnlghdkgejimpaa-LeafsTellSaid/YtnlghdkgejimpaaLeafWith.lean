/- leafs.With: a leaf in which a key has a value, or none. Condition: sizes that fit. -/
import Derived.Test.YtnlghdkgejimpaaLeafIs
import Derived.Test.YtnlghdkgejimpaaNodeTwo2
import Derived.Test.YtnlghdkgejimpaaNodeClone2
import Derived.Test.YtnlghdkgejimpaaAddStr
import Derived.Test.YtnlghdkgejimpaaAddU64
namespace Go.Proofs.Ytnlghdkgejimpaa
open Go.RowKit

def Nod.WithP (n : Nod) (k : ByteArray) (v : Nat) (fan : Int) : Prop := n.Leaf ∧ (4 ≤ fan ∧ fan ≤ 64) ∧ (n.with k v).Sound fan

theorem gave_rows {w w1 W W' : World} {lv nx : Int} {lo hi : ByteArray} {la : Bool} {ka va ca : Option Addr} {ks : List ByteArray} {vs : List Nat} {cs : List Int}
    (h1 : NewRow w1 W 9 (.slice ka ks.length ks.length) (ks.map Value.string)) (h2 : NewRow w1 W 27 (.slice va vs.length vs.length) (vs.map uv)) (h3 : NewRow w1 W 3 (.slice ca cs.length cs.length) (cs.map (Value.int .i64)))
    (hl : ks.length ≤ 9223372036854775807 ∧ vs.length ≤ 9223372036854775807 ∧ cs.length ≤ 9223372036854775807) (hw : w.heap.size ≤ w1.heap.size) (hs : ∀ g, w1.heap.size ≤ g → W'.heap[g]? = W.heap[g]?) (hb : Below w.heap.size w W') :
    GaveN w W' (.returned (.tuple #[.agg #[.int .i64 lv, .string lo, .string hi, .bool la, .int .i64 nx, .slice ka ks.length ks.length, .slice va vs.length vs.length, .slice ca cs.length cs.length], .bool true])) true ⟨lv, nx, lo, hi, la, ks, vs, cs⟩ :=
  ⟨ka, va, ca, _, _, _, rfl, ⟨(h1.far hs).rd (by rw [List.length_map]; exact hl.1), (h2.far hs).rd (by rw [List.length_map]; exact hl.2.1), (h3.far hs).rd (by rw [List.length_map]; exact hl.2.2)⟩, hb, (Far.of_new h1).base hw, (Far.of_new h2).base hw, (Far.of_new h3).base hw⟩
theorem gave_none {w W' : World} (hb : Below w.heap.size w W') :
    GaveN w W' (.returned (.tuple #[.agg #[.int .i64 0, .string ⟨#[]⟩, .string ⟨#[]⟩, .bool false, .int .i64 0, .slice none 0 0, .slice none 0 0, .slice none 0 0], .bool false])) false .none :=
  ⟨none, none, none, 0, 0, 0, rfl, ⟨Rd.nil _, Rd.nil _, Rd.nil _⟩, hb, (fun _ h => by cases h), (fun _ h => by cases h), (fun _ h => by cases h)⟩
theorem new_of_made {w W W' : World} {t : TypeId} {v : Value} {xs : List Value} (h : Made W W' t v xs) (hb : w.heap.size ≤ W.heap.size) : ∃ ao, v = .slice ao xs.length xs.length ∧ NewRow w W' t (.slice ao xs.length xs.length) xs ∧ Below W.heap.size W W' := by
  obtain ⟨g, rfl, h2, h3, h4⟩ := h
  exact ⟨_, rfl, Or.inl ⟨g, rfl, by omega, h3⟩, h4⟩

theorem NewRow.box {W0 W : World} {t : TypeId} {v : Value} {g i : Nat} {xs : List Value} {cs : Array Value} (h : NewRow W0 W t v xs) (h' : NB W g cs) (hne : 26 ≠ t) (u : Value) : NewRow W0 (W.setCell ⟨g, i, none⟩ u) t v xs := by
  rcases h with ⟨b, h1, h2, h3⟩ | h
  · refine Or.inl ⟨b, h1, h2, ?_⟩
    unfold Whole
    rw [Below.heap_setCell W ⟨g, i, none⟩ u b (fun e => h'.other h3 hne e.symm)]
    exact h3
  · exact Or.inr h

/-- The box of a copy. -/
def CopyAt (w1 wx : World) (s : Value) (lv nx : Int) (lo hi : ByteArray) (la : Bool) (ks : List ByteArray) (vs : List Nat) (cs : List Int) : Prop :=
  ∃ (gm : Nat) (ko vo co : Option Addr), s = .pointer (some ⟨gm, 0, none⟩) ∧ w1.heap.size ≤ gm ∧ NB wx gm #[.int .i64 lv, .string lo, .string hi, .bool la, .int .i64 nx, .slice ko ks.length ks.length, .slice vo vs.length vs.length, .slice co cs.length cs.length] ∧
    NewRow w1 wx 9 (.slice ko ks.length ks.length) (ks.map Value.string) ∧ NewRow w1 wx 27 (.slice vo vs.length vs.length) (vs.map uv) ∧ NewRow w1 wx 3 (.slice co cs.length cs.length) (cs.map (Value.int .i64)) ∧ Below w1.heap.size w1 wx

theorem copy_at {w1 w2 w3 : World} {lv nx : Int} {lo hi : ByteArray} {la : Bool} {ko vo co : Option Addr} {ks : List ByteArray} {vs : List Nat} {cs : List Int} (h2 : Below w1.heap.size w1 w2) (h3 : Below w2.heap.size w2 w3)
    (k1 : NewRow w2 w3 9 (.slice ko ks.length ks.length) (ks.map Value.string)) (k2 : NewRow w2 w3 27 (.slice vo vs.length vs.length) (vs.map uv)) (k3 : NewRow w2 w3 3 (.slice co cs.length cs.length) (cs.map (Value.int .i64))) :
    CopyAt w1 (w3.alloc (.cells #[.int .i64 lv, .string lo, .string hi, .bool la, .int .i64 nx, .slice ko ks.length ks.length, .slice vo vs.length vs.length, .slice co cs.length cs.length] 26)) (.pointer (some ⟨w3.heap.size, 0, none⟩)) lv nx lo hi la ks vs cs := by
  have z3 := h3.size
  have z2 := h2.size
  have hb := boxed_below w3 (.cells #[.int .i64 lv, .string lo, .string hi, .bool la, .int .i64 nx, .slice ko ks.length ks.length, .slice vo vs.length vs.length, .slice co cs.length cs.length] 26)
  exact ⟨w3.heap.size, ko, vo, co, rfl, by omega, NB.new w3 _, (k1.keep hb).back z2, (k2.keep hb).back z2, (k3.keep hb).back z2, (h2.trans (h3.mono z2)).trans (hb.mono (by omega))⟩

set_option maxHeartbeats 1000000 in
set_option maxRecDepth 100000 in
theorem with_of (lv nx : Int) (lo hi : ByteArray) (la : Bool) (ak av ac : Option Addr) (ck cv cc : Nat) (ks : List ByteArray) (vs : List Nat) (cs : List Int) (k : ByteArray) (v : Nat) (fan : Int) (b : Bool) (w : World) (hN : NdAt w ak av ac ks.length ck vs.length cv cs.length cc ks vs cs) (hf : Fit lo hi ks ks.length vs.length cs.length) (hs : ks.length ≤ 200 ∧ vs.length ≤ 200 ∧ cs.length ≤ 200) (hk : k.size ≤ 140737488355328) (hb : b = true ↔ Nod.WithP ⟨lv, nx, lo, hi, la, ks, vs, cs⟩ k v fan) :
    Calls Try.prog 12 #[.agg #[.int .i64 lv, .string lo, .string hi, .bool la, .int .i64 nx, .slice ak ks.length ck, .slice av vs.length cv, .slice ac cs.length cc], .string k, .int .u64 v, .int .i64 fan] w fun e w' => GaveN w w' e b (Nod.or b (Nod.with ⟨lv, nx, lo, hi, la, ks, vs, cs⟩ k v)) := by
  obtain ⟨n1, n2, hB⟩ := boxes2 w #[.int .i64 lv, .string lo, .string hi, .bool la, .int .i64 nx, .slice ak ks.length ck, .slice av vs.length cv, .slice ac cs.length cc] #[.int .i64 0, .string ⟨#[]⟩, .string ⟨#[]⟩, .bool false, .int .i64 0, .slice none 0 0, .slice none 0 0, .slice none 0 0]
  obtain ⟨w1, hw1⟩ : ∃ w1, w1 = (w.alloc (.cells #[.int .i64 lv, .string lo, .string hi, .bool la, .int .i64 nx, .slice ak ks.length ck, .slice av vs.length cv, .slice ac cs.length cc] 26)).alloc (.cells #[.int .i64 0, .string ⟨#[]⟩, .string ⟨#[]⟩, .bool false, .int .i64 0, .slice none 0 0, .slice none 0 0, .slice none 0 0] 26) := ⟨_, rfl⟩
  have HB : Hid (Below w.heap.size w w1) := Lib.hid (by rw [hw1]; exact hB)
  have HN1 : Hid (NB w1 w.heap.size #[.int .i64 lv, .string lo, .string hi, .bool la, .int .i64 nx, .slice ak ks.length ck, .slice av vs.length cv, .slice ac cs.length cc]) := Lib.hid (by rw [hw1]; exact n1)
  have HN2 : Hid (NB w1 (w.heap.size + 1) #[.int .i64 0, .string ⟨#[]⟩, .string ⟨#[]⟩, .bool false, .int .i64 0, .slice none 0 0, .slice none 0 0, .slice none 0 0]) := Lib.hid (by rw [hw1]; exact n2)
  have HSZ : Hid (w1.heap.size = w.heap.size + 1 + 1) := Lib.hid (by rw [hw1, World.size_alloc, World.size_alloc])
  have HW1 := Lib.hid hw1
  obtain ⟨q0, q1, q2, q3, q4, q5, q6, q7⟩ := HN1.out.cells
  obtain ⟨l, hl⟩ := bool_or (lv = 0 ∧ SoundP lv nx lo hi la ks.length vs.length cs.length ks cs 64)
  have HIS := Lib.hid (isLeaf_of lv nx lo hi la ak av ac ks.length ck vs.length cv cs.length cc ks vs cs l w1 (hN.keep HB.out) hf hl)
  have HCL := Lib.hid (nclone_any lv nx lo hi la ak av ac ks.length ck vs.length cv cs.length cc ks vs cs)
  have HFI := Lib.hid (fun W h hu => find_any (.slice ak ks.length ck) k ks W h hk hf.ks (by have := hf.n; omega) hu)
  have HND := Lib.hid hN
  have HFT := Lib.hid hf
  have HKK := Lib.hid hk
  have HSM := Lib.hid hs
  have HLL := Lib.hid hl
  have HBB := Lib.hid hb
  clear hN hf hs hk hb hl hw1 n1 n2 hB
  go_enter Try.func12, Try.ntmps12
  go_wp2_with fail
  rw [← HW1.out]
  refine HIS.out.mono ?_
  rintro e w2 ⟨rfl, hb2⟩
  have HB2 := Lib.hid hb2
  clear hb2
  cases l with
  | false =>
    have HF : Hid (b = false) := Lib.hid (bool_no HBB.out (fun h => by have := HLL.out.2 h.1; cases this))
    obtain ⟨t0, t1, t2, t3, t4, t5, t6, t7⟩ := (HN2.out.below HB2.out).cells
    have f0 := (HN2.out.below HB2.out).frozen 0
    have f1 := (HN2.out.below HB2.out).frozen 1
    have f2 := (HN2.out.below HB2.out).frozen 2
    have f3 := (HN2.out.below HB2.out).frozen 3
    have f4 := (HN2.out.below HB2.out).frozen 4
    have f5 := (HN2.out.below HB2.out).frozen 5
    have f6 := (HN2.out.below HB2.out).frozen 6
    have f7 := (HN2.out.below HB2.out).frozen 7
    go_wp2
    refine bodyPost_ret (v := .tuple #[.agg #[.int .i64 0, .string ⟨#[]⟩, .string ⟨#[]⟩, .bool false, .int .i64 0, .slice none 0 0, .slice none 0 0, .slice none 0 0], .bool false]) (by simp [results, Try.results12, go_sem, *]) rfl ?_
    rw [HF.out]
    exact gave_none (wr5_below (w.heap.size + 1) w.heap.size (by omega) [(0, _), (1, _), (2, _), (3, _), (4, _), (5, _), (6, _), (7, _)] w w2 (HB.out.trans (HB2.out.mono HB.out.size)))
  | true =>
    have HS := Lib.hid (HLL.out.1 rfl)
    have HRB := Lib.hid (HN2.out.below HB2.out)
    have HBW := Lib.hid (HB.out.trans (HB2.out.mono HB.out.size))
    clear q0 q1 q2 q3 q4 q5 q6 q7 HIS HLL
    obtain ⟨q0, q1, q2, q3, q4, q5, q6, q7⟩ := (HN1.out.below HB2.out).cells
    go_upto_region 3 with fail
    go_cut [10] (fun s10 wx => Hid (CopyAt w1 wx s10 lv nx lo hi la ks vs cs))
    case first =>
      go_wp2_with fail
      refine (HCL.out w2 (HND.out.keep HBW.out) (by have := HFT.out.n; omega)).mono ?_
      rintro e w3 ⟨kv, vv, cv2, rfl, hk1, hk2, hk3, hb3⟩
      obtain ⟨ko, rfl⟩ := hk1.open
      obtain ⟨vo, rfl⟩ := hk2.open
      obtain ⟨co, rfl⟩ := hk3.open
      rw [List.length_map] at hk1 hk2 hk3
      have HK1 := Lib.hid hk1
      have HK2 := Lib.hid hk2
      have HK3 := Lib.hid hk3
      have HB3 := Lib.hid hb3
      clear hk1 hk2 hk3 hb3
      go_wp2
      go_meet
      exact Lib.hid (copy_at HB2.out HB3.out HK1.out HK2.out HK3.out)
    case rest =>
      obtain ⟨gm, ko, vo, co, rfl, hg, hm, r1, r2, r3, hb⟩ := hcut.out
      have HG := Lib.hid hg
      have HM := Lib.hid hm
      have HR1 := Lib.hid r1
      have HR2 := Lib.hid r2
      have HR3 := Lib.hid r3
      have HBC := Lib.hid hb
      have HP := Lib.hid (edge_place HS.out.2.keys.rise k)
      have HLE := Lib.hid (HS.out.2.entries.leaf HS.out.1)
      have HRI := Lib.hid HS.out.2.keys.rise
      clear hg hm r1 r2 r3 hb hcut q0 q1 q2 q3 q4 q5 q6 q7 HCL HRB HBW
      obtain ⟨q0, q1, q2, q3, q4, q5, q6, q7⟩ := (HN1.out.below HBC.out).cells
      go_wp2_with fail
      refine (HFI.out wc ((HND.out.k.keep HB.out).keep HBC.out) HRI.out).mono ?_
      rintro e w4 ⟨at_, is, rfl, hE, hi, hb4⟩
      obtain rfl : at_ = placeF ks k := hE.one HP.out
      have HB4 := Lib.hid (HBC.out.trans (hb4.mono HBC.out.size))
      have HM4 := Lib.hid (HM.out.below hb4)
      have K1 := Lib.hid (HR1.out.keep hb4)
      have K2 := Lib.hid (HR2.out.keep hb4)
      have K3 := Lib.hid (HR3.out.keep hb4)
      have HI := Lib.hid hi
      clear hE hi hb4 HM HR1 HR2 HR3 HFI q0 q1 q2 q3 q4 q5 q6 q7
      obtain ⟨q0, q1, q2, q3, q4, q5, q6, q7⟩ := (HN1.out.below HB4.out).cells
      cases is with
      | true =>
        have HTH : Hid (thereF ks k) := Lib.hid (HI.out.1 rfl)
        have HEQ : Hid (Nod.with ⟨lv, nx, lo, hi, la, ks, vs, cs⟩ k v = ⟨lv, nx, lo, hi, la, ks, vs.set (placeF ks k) v, cs⟩) := Lib.hid (by unfold Nod.with; rw [if_pos HTH.out])
        have hlt : placeF ks k < vs.length := by rw [HLE.out.1]; exact HTH.out.1
        generalize placeF ks k = a at *
        obtain ⟨g, rfl, hg2, hW, _⟩ := row_at K2.out hlt
        obtain ⟨hc, hfz⟩ := hW.still (fun i _ => rfl) hlt
        unfold uv at hc
        obtain ⟨w5, hw5⟩ : ∃ w5, w5 = w4.setCell ⟨g, a, none⟩ (.int .u64 v) := ⟨_, rfl⟩
        obtain ⟨vs2, hvs2⟩ : ∃ vs2, vs2 = vs.set a v := ⟨_, rfl⟩
        have hl2 : vs.length = vs2.length := by rw [hvs2, List.length_set]
        have HLN : Hid (ks.length ≤ ks.length + 1 ∧ vs2.length ≤ vs.length + 1) := Lib.hid (by omega)
        have HKS : Hid (∀ x ∈ ks, x.size ≤ 140737488355328) := Lib.hid HFT.out.ks
        have HM5 : Hid (NB w5 gm #[.int .i64 lv, .string lo, .string hi, .bool la, .int .i64 nx, .slice ko ks.length ks.length, .slice (some ⟨g, 0, none⟩) vs2.length vs2.length, .slice co cs.length cs.length]) := Lib.hid (by rw [hw5, ← hl2]; exact HM4.out.far (HM4.out.other hW (by decide)) _)
        have L1 : Hid (NewRow w1 w5 9 (.slice ko ks.length ks.length) (ks.map Value.string)) := Lib.hid (by rw [hw5]; exact K1.out.else_ hW (by decide) _)
        have L2 : Hid (NewRow w1 w5 27 (.slice (some ⟨g, 0, none⟩) vs2.length vs2.length) (vs2.map uv)) := Lib.hid (by rw [hw5, ← hl2, hvs2, List.map_set]; exact K2.out.wrote (k := a) _)
        have L3 : Hid (NewRow w1 w5 3 (.slice co cs.length cs.length) (cs.map (Value.int .i64))) := Lib.hid (by rw [hw5]; exact K3.out.else_ hW (by decide) _)
        have HB5 : Hid (Below w1.heap.size w1 w5) := Lib.hid (by rw [hw5]; exact HB4.out.setCell hg2 _)
        have HW5 := Lib.hid hw5
        have q6 := HM4.out.cells.2.2.2.2.2.2.1
        rw [← hvs2] at HEQ
        clear hw5 hvs2 hg2 hW
        obtain ⟨y, hy⟩ : ∃ y, y = vs[a] := ⟨_, rfl⟩
        rw [← hy] at hc
        have HL2 := Lib.hid hl2
        have ha : a < 274877906944 := by have := HFT.out.n; omega
        clear hy hl2
        have HFT2 : Fit lo hi ks ks.length vs2.length cs.length := ⟨HFT.out.lo, HFT.out.hi, HKS.out, by have := HSM.out; have := HLN.out; omega⟩
        have hnd : NdAt w5 ko (some ⟨g, 0, none⟩) co ks.length ks.length vs2.length vs2.length cs.length cs.length ks vs2 cs := ⟨L1.out.rd (by rw [List.length_map]; have := HFT2.n; omega), L2.out.rd (by rw [List.length_map]; have := HFT2.n; omega), L3.out.rd (by rw [List.length_map]; have := HFT2.n; omega)⟩
        have HCK := Lib.hid (check_of lv nx lo hi la ko (some ⟨g, 0, none⟩) co ks.length ks.length vs2.length vs2.length cs.length cs.length ks vs2 cs fan b w5 hnd HFT2 (HBB.out.trans ⟨fun h => ⟨h.2.1, by have := h.2.2; rw [HEQ.out] at this; exact this⟩, fun h => ⟨HS.out, h.1, by rw [HEQ.out]; exact h.2⟩⟩))
        have HGL := Lib.hid HFT2.n
        clear hnd HFT2
        obtain ⟨d0, d1, d2, d3, d4, d5, d6, d7⟩ := HM5.out.cells
        go_upto_region 9 with fail
        rw [← HW5.out]
        go_wp2_with fail
        refine HCK.out.mono ?_
        rintro e w6 ⟨c, rfl, _, hcn, hb6⟩
        have HB6 := Lib.hid hb6
        clear hb6 d0 d1 d2 d3 d4 d5 d6 d7
        obtain ⟨d0, d1, d2, d3, d4, d5, d6, d7⟩ := (HM5.out.below HB6.out).cells
        have HRB := Lib.hid ((HN2.out.below HB5.out).below HB6.out)
        obtain ⟨t0, t1, t2, t3, t4, t5, t6, t7⟩ := HRB.out.cells
        have f0 := HRB.out.frozen 0
        have f1 := HRB.out.frozen 1
        have f2 := HRB.out.frozen 2
        have f3 := HRB.out.frozen 3
        have f4 := HRB.out.frozen 4
        have f5 := HRB.out.frozen 5
        have f6 := HRB.out.frozen 6
        have f7 := HRB.out.frozen 7
        have HBE := Lib.hid ((HB.out.trans (HB5.out.mono HB.out.size)).trans (HB6.out.mono (Nat.le_trans HB.out.size HB5.out.size)))
        cases b with
        | false =>
          go_wp2
          refine bodyPost_ret (v := .tuple #[.agg #[.int .i64 0, .string ⟨#[]⟩, .string ⟨#[]⟩, .bool false, .int .i64 0, .slice none 0 0, .slice none 0 0, .slice none 0 0], .bool false]) (by simp [results, Try.results12, go_sem, *]) rfl ?_
          exact gave_none (wr5_below (w.heap.size + 1) w.heap.size (by omega) [(0, _), (1, _), (2, _), (3, _), (4, _), (5, _), (6, _), (7, _)] w w6 HBE.out)
        | true =>
          go_wp2
          refine bodyPost_ret (v := .tuple #[.agg #[.int .i64 lv, .string lo, .string hi, .bool la, .int .i64 nx, .slice ko ks.length ks.length, .slice (some ⟨g, 0, none⟩) vs2.length vs2.length, .slice co cs.length cs.length], .bool true]) (by simp [results, Try.results12, go_sem, *]) rfl ?_
          rw [HEQ.out]
          have hz := HSZ.out
          refine gave_rows (w1 := w1) (L1.out.keep HB6.out) (L2.out.keep HB6.out) (L3.out.keep HB6.out) (by have := HGL.out; omega) HB.out.size ?_ ?_
          · exact fun g hg => wr5_far (w.heap.size + 1) g (by omega) [(0, _), (1, _), (2, _), (3, _), (4, _), (5, _), (6, _), (7, _)] w6
          · exact wr5_below (w.heap.size + 1) w.heap.size (by omega) [(0, _), (1, _), (2, _), (3, _), (4, _), (5, _), (6, _), (7, _)] w w6 HBE.out
      | false =>
        have HTH : Hid (¬ thereF ks k) := Lib.hid (fun h => by have := HI.out.2 h; cases this)
        have HEQ : Hid (Nod.with ⟨lv, nx, lo, hi, la, ks, vs, cs⟩ k v = ⟨lv, nx, lo, hi, la, insF ks (placeF ks k) k, insF vs (placeF ks k) v, cs⟩) := Lib.hid (by unfold Nod.with; rw [if_neg HTH.out])
        have hle : placeF ks k ≤ ks.length := HP.out.1
        generalize placeF ks k = a at *
        have hle2 : a ≤ vs.length := by rw [HLE.out.1]; exact hle
        have HAS := Lib.hid (addStr_yes ak ks.length ck a k (ks.map Value.string) w4 (((HND.out.k.keep HB.out).keep HB4.out)) (ones_str ks) (by have := HSM.out; omega) hle)
        have HAU := Lib.hid (fun W (h : Below w1.heap.size w1 W) => addU64_yes av vs.length cv a v (vs.map uv) W (((HND.out.v.keep HB.out).keep h)) (ones_u64 vs) (by have := HSM.out; omega) hle2)
        obtain ⟨ks2, hks2⟩ : ∃ ks2, ks2 = insF ks a k := ⟨_, rfl⟩
        obtain ⟨vs2, hvs2⟩ : ∃ vs2, vs2 = insF vs a v := ⟨_, rfl⟩
        have HLN : Hid (ks2.length ≤ ks.length + 1 ∧ vs2.length ≤ vs.length + 1) := Lib.hid (by rw [hks2, hvs2, insF_len hle, insF_len hle2]; omega)
        have HKS : Hid (∀ x ∈ ks2, x.size ≤ 140737488355328) := Lib.hid (by
          intro x hx
          rw [hks2] at hx
          unfold insF at hx
          rcases List.mem_append.1 hx with h | h
          · exact HFT.out.ks x (List.mem_of_mem_take h)
          · rcases List.mem_cons.1 h with rfl | h
            · exact HKK.out
            · exact HFT.out.ks x (List.mem_of_mem_drop h))
        rw [← hks2, ← hvs2] at HEQ
        have hk3 : (ks.map Value.string).take a ++ .string k :: (ks.map Value.string).drop a = ks2.map Value.string := by rw [hks2, insF_map]
        have hv3 : (vs.map uv).take a ++ .int .u64 v :: (vs.map uv).drop a = vs2.map uv := by rw [hvs2, insF_map]; rfl
        rw [hk3] at HAS
        rw [hv3] at HAU
        have ha : a < 274877906944 := by have := HSM.out; omega
        have HLE3 := Lib.hid (And.intro hle hle2)
        clear hk3 hv3 hks2 hvs2 hle hle2
        go_wp2_with fail
        refine HAS.out.mono ?_
        rintro e wa ⟨kv2, rfl, hm5⟩
        obtain ⟨ka2, rfl, r5, hb5⟩ := new_of_made hm5 HB4.out.size
        rw [List.length_map] at r5
        rw [List.length_map]
        have M5 := HM4.out.below hb5
        have e5 := M5.frozen 5
        have d5 := M5.cells.2.2.2.2.2.1
        obtain ⟨wb, hwb⟩ : ∃ wb, wb = wa.setCell ⟨gm, 5, none⟩ (.slice ka2 ks2.length ks2.length) := ⟨_, rfl⟩
        have MB : Hid (NB wb gm _) := Lib.hid (by rw [hwb]; exact M5.s5 _)
        have LB1 : Hid (NewRow w1 wb 9 (.slice ka2 ks2.length ks2.length) (ks2.map Value.string)) := Lib.hid (by rw [hwb]; exact r5.box M5 (by decide) _)
        have LB3 : Hid (NewRow w1 wb 3 (.slice co cs.length cs.length) (cs.map (Value.int .i64))) := Lib.hid (by rw [hwb]; exact (K3.out.keep hb5).box M5 (by decide) _)
        have HBB1 : Hid (Below w1.heap.size w1 wb) := Lib.hid (by rw [hwb]; exact (HB4.out.trans (hb5.mono HB4.out.size)).setCell HG.out _)
        have HWB := Lib.hid hwb
        clear hm5 r5 hb5 M5 hwb q0 q1 q2 q3 q4 q5 q6 q7 K1 K2 K3 HM4 HAS
        go_upto_region 8 with fail
        rw [← HWB.out]
        clear d5 e5 HWB
        obtain ⟨q0, q1, q2, q3, q4, q5, q6, q7⟩ := (HN1.out.below HBB1.out).cells
        go_wp2_with fail
        refine (HAU.out _ HBB1.out).mono ?_
        rintro e wd ⟨vv2, rfl, hm7⟩
        obtain ⟨va2, rfl, r7, hb7⟩ := new_of_made hm7 HBB1.out.size
        rw [List.length_map] at r7
        rw [List.length_map]
        have M7 := MB.out.below hb7
        have e6 := M7.frozen 6
        have d6 := M7.cells.2.2.2.2.2.2.1
        obtain ⟨w5, hw5⟩ : ∃ w5, w5 = wd.setCell ⟨gm, 6, none⟩ (.slice va2 vs2.length vs2.length) := ⟨_, rfl⟩
        have HM5 : Hid (NB w5 gm #[.int .i64 lv, .string lo, .string hi, .bool la, .int .i64 nx, .slice ka2 ks2.length ks2.length, .slice va2 vs2.length vs2.length, .slice co cs.length cs.length]) := Lib.hid (by rw [hw5]; exact M7.s6 _)
        have L1 : Hid (NewRow w1 w5 9 (.slice ka2 ks2.length ks2.length) (ks2.map Value.string)) := Lib.hid (by rw [hw5]; exact (LB1.out.keep hb7).box M7 (by decide) _)
        have L2 : Hid (NewRow w1 w5 27 (.slice va2 vs2.length vs2.length) (vs2.map uv)) := Lib.hid (by rw [hw5]; exact r7.box M7 (by decide) _)
        have L3 : Hid (NewRow w1 w5 3 (.slice co cs.length cs.length) (cs.map (Value.int .i64))) := Lib.hid (by rw [hw5]; exact (LB3.out.keep hb7).box M7 (by decide) _)
        have HB5 : Hid (Below w1.heap.size w1 w5) := Lib.hid (by rw [hw5]; exact (HBB1.out.trans (hb7.mono HBB1.out.size)).setCell HG.out _)
        have HW5 := Lib.hid hw5
        clear hm7 r7 hb7 M7 hw5 MB LB1 LB3 HAU q0 q1 q2 q3 q4 q5 q6 q7
        have HFT2 : Fit lo hi ks2 ks2.length vs2.length cs.length := ⟨HFT.out.lo, HFT.out.hi, HKS.out, by have := HSM.out; have := HLN.out; omega⟩
        have hnd : NdAt w5 ka2 va2 co ks2.length ks2.length vs2.length vs2.length cs.length cs.length ks2 vs2 cs := ⟨L1.out.rd (by rw [List.length_map]; have := HFT2.n; omega), L2.out.rd (by rw [List.length_map]; have := HFT2.n; omega), L3.out.rd (by rw [List.length_map]; have := HFT2.n; omega)⟩
        have HCK := Lib.hid (check_of lv nx lo hi la ka2 va2 co ks2.length ks2.length vs2.length vs2.length cs.length cs.length ks2 vs2 cs fan b w5 hnd HFT2 (HBB.out.trans ⟨fun h => ⟨h.2.1, by have := h.2.2; rw [HEQ.out] at this; exact this⟩, fun h => ⟨HS.out, h.1, by rw [HEQ.out]; exact h.2⟩⟩))
        have HGL := Lib.hid HFT2.n
        clear hnd HFT2
        obtain ⟨d0, d1, d2, d3, d4, d5, d6, d7⟩ := HM5.out.cells
        go_upto_region 9 with fail
        rw [← HW5.out]
        go_wp2_with fail
        refine HCK.out.mono ?_
        rintro e w6 ⟨c, rfl, _, hcn, hb6⟩
        have HB6 := Lib.hid hb6
        clear hb6 d0 d1 d2 d3 d4 d5 d6 d7
        obtain ⟨d0, d1, d2, d3, d4, d5, d6, d7⟩ := (HM5.out.below HB6.out).cells
        have HRB := Lib.hid ((HN2.out.below HB5.out).below HB6.out)
        obtain ⟨t0, t1, t2, t3, t4, t5, t6, t7⟩ := HRB.out.cells
        have f0 := HRB.out.frozen 0
        have f1 := HRB.out.frozen 1
        have f2 := HRB.out.frozen 2
        have f3 := HRB.out.frozen 3
        have f4 := HRB.out.frozen 4
        have f5 := HRB.out.frozen 5
        have f6 := HRB.out.frozen 6
        have f7 := HRB.out.frozen 7
        have HBE := Lib.hid ((HB.out.trans (HB5.out.mono HB.out.size)).trans (HB6.out.mono (Nat.le_trans HB.out.size HB5.out.size)))
        cases b with
        | false =>
          go_wp2
          refine bodyPost_ret (v := .tuple #[.agg #[.int .i64 0, .string ⟨#[]⟩, .string ⟨#[]⟩, .bool false, .int .i64 0, .slice none 0 0, .slice none 0 0, .slice none 0 0], .bool false]) (by simp [results, Try.results12, go_sem, *]) rfl ?_
          exact gave_none (wr5_below (w.heap.size + 1) w.heap.size (by omega) [(0, _), (1, _), (2, _), (3, _), (4, _), (5, _), (6, _), (7, _)] w w6 HBE.out)
        | true =>
          go_wp2
          refine bodyPost_ret (v := .tuple #[.agg #[.int .i64 lv, .string lo, .string hi, .bool la, .int .i64 nx, .slice ka2 ks2.length ks2.length, .slice va2 vs2.length vs2.length, .slice co cs.length cs.length], .bool true]) (by simp [results, Try.results12, go_sem, *]) rfl ?_
          rw [HEQ.out]
          have hz := HSZ.out
          refine gave_rows (w1 := w1) (L1.out.keep HB6.out) (L2.out.keep HB6.out) (L3.out.keep HB6.out) (by have := HGL.out; omega) HB.out.size ?_ ?_
          · exact fun g hg => wr5_far (w.heap.size + 1) g (by omega) [(0, _), (1, _), (2, _), (3, _), (4, _), (5, _), (6, _), (7, _)] w6
          · exact wr5_below (w.heap.size + 1) w.heap.size (by omega) [(0, _), (1, _), (2, _), (3, _), (4, _), (5, _), (6, _), (7, _)] w w6 HBE.out
end Go.Proofs.Ytnlghdkgejimpaa
