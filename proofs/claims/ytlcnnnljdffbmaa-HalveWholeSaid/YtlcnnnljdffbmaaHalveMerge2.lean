/- sorted.Join at texts, words and numbers: two rows as one, in new memory; halve.joined: neighbours as one node. Condition: rows that are there. halve.joined: neighbours as one node. Condition: rows that are there. slices.IndexFunc and ContainsFunc with areNeighbours' closure; halve.areNeighbours. Condition: sizes that fit. halve.Merge: neighbours as one, or none. Condition: sizes that fit. bowerlaw13.lives: the chapter's example. No condition. -/
import Derived.Test.YtlcnnnljdffbmaaHalveTwo
import Derived.Test.YtlcnnnljdffbmaaAddStr
import Derived.Test.YtlcnnnljdffbmaaAddU64
import Derived.Test.YtlcnnnljdffbmaaAddInt
import Derived.Test.YtlcnnnljdffbmaaGrowRow
import Derived.Test.YtlcnnnljdffbmaaHalvePart2
import Derived.Test.YtlcnnnljdffbmaaHalveBase
import Derived.Test.YtlcnnnljdffbmaaNodeKids
import Derived.Test.YtlcnnnljdffbmaaInnerPost
import Derived.Test.YtlcnnnljdffbmaaHalveBurst2
import Derived.Test.YtlcnnnljdffbmaaNodeLives
import Derived.Test.YtlcnnnljdffbmaaNodeSameOps
namespace Go.Proofs.Ytlcnnnljdffbmaa
open Go.RowKit

set_option maxHeartbeats 1000000 in
theorem joinStr_any (v1 v2 : Value) (xs ys : List Value) (w : World) (h1 : Rd w v1 xs) (h2 : Rd w v2 ys) (o1 : ∀ u ∈ xs, u.oneCell' = true) (o2 : ∀ u ∈ ys, u.oneCell' = true) (hl : xs.length + ys.length ≤ 549755813888) :
    Calls Try.prog 91 #[v1, v2] w fun e w' => ∃ v, e = .returned v ∧ NewRow w w' 9 v (xs ++ ys) ∧ Below w.heap.size w w' := by
  obtain ⟨a1, c1, rfl⟩ := h1.open
  obtain ⟨a2, c2, rfl⟩ := h2.open
  have hw := one_alloc w (.cells #[.slice a1 xs.length c1, .slice a2 ys.length c2] 22)
  have HL := Lib.hid (laidStr_two w _ _ xs ys h1 h2 o1 o2 hl _ hw.1 hw.2)
  have HB := Lib.hid hw.2
  clear h1 h2 o1 o2 hw hl
  go_enter Try.func91, Try.ntmps91
  go_wp2_with fail
  refine HL.out.mono ?_
  rintro e w2 ⟨v, rfl, hm⟩
  have HM := Lib.hid (hm.backStr HB.out)
  clear hm
  go_wp2
  go_ret
  exact ⟨v, rfl, (new_made HM.out).1, (new_made HM.out).2⟩

set_option maxHeartbeats 1000000 in
theorem joinU64_any (v1 v2 : Value) (xs ys : List Value) (w : World) (h1 : Rd w v1 xs) (h2 : Rd w v2 ys) (o1 : ∀ u ∈ xs, u.oneCell' = true) (o2 : ∀ u ∈ ys, u.oneCell' = true) (hl : xs.length + ys.length ≤ 549755813888) :
    Calls Try.prog 92 #[v1, v2] w fun e w' => ∃ v, e = .returned v ∧ NewRow w w' 50 v (xs ++ ys) ∧ Below w.heap.size w w' := by
  obtain ⟨a1, c1, rfl⟩ := h1.open
  obtain ⟨a2, c2, rfl⟩ := h2.open
  have hw := one_alloc w (.cells #[.slice a1 xs.length c1, .slice a2 ys.length c2] 23)
  have HL := Lib.hid (laidU64_two w _ _ xs ys h1 h2 o1 o2 hl _ hw.1 hw.2)
  have HB := Lib.hid hw.2
  clear h1 h2 o1 o2 hw hl
  go_enter Try.func92, Try.ntmps92
  go_wp2_with fail
  refine HL.out.mono ?_
  rintro e w2 ⟨v, rfl, hm⟩
  have HM := Lib.hid (hm.backU64 HB.out)
  clear hm
  go_wp2
  go_ret
  exact ⟨v, rfl, (new_made HM.out).1, (new_made HM.out).2⟩

set_option maxHeartbeats 1000000 in
theorem joinInt_any (v1 v2 : Value) (xs ys : List Value) (w : World) (h1 : Rd w v1 xs) (h2 : Rd w v2 ys) (o1 : ∀ u ∈ xs, u.oneCell' = true) (o2 : ∀ u ∈ ys, u.oneCell' = true) (hl : xs.length + ys.length ≤ 549755813888) :
    Calls Try.prog 93 #[v1, v2] w fun e w' => ∃ v, e = .returned v ∧ NewRow w w' 3 v (xs ++ ys) ∧ Below w.heap.size w w' := by
  obtain ⟨a1, c1, rfl⟩ := h1.open
  obtain ⟨a2, c2, rfl⟩ := h2.open
  have hw := one_alloc w (.cells #[.slice a1 xs.length c1, .slice a2 ys.length c2] 24)
  have HL := Lib.hid (laidInt_two w _ _ xs ys h1 h2 o1 o2 hl _ hw.1 hw.2)
  have HB := Lib.hid hw.2
  clear h1 h2 o1 o2 hw hl
  go_enter Try.func93, Try.ntmps93
  go_wp2_with fail
  refine HL.out.mono ?_
  rintro e w2 ⟨v, rfl, hm⟩
  have HM := Lib.hid (hm.backInt HB.out)
  clear hm
  go_wp2
  go_ret
  exact ⟨v, rfl, (new_made HM.out).1, (new_made HM.out).2⟩
end Go.Proofs.Ytlcnnnljdffbmaa

namespace Go.Proofs.Ytlcnnnljdffbmaa
open Go.RowKit

/-- A node is told, its rows not below the call's world. -/
def JoinG (w w' : World) (e : Ending) (n : Nod) : Prop :=
  ∃ (ak av ac : Option Addr) (ck cv cc : Nat), e = .returned (.agg #[.int .i64 n.lv, .string n.lo, .string n.hi, .bool n.la, .int .i64 n.nx, .slice ak n.ks.length ck, .slice av n.vs.length cv, .slice ac n.cs.length cc]) ∧ NdAt w' ak av ac n.ks.length ck n.vs.length cv n.cs.length cc n.ks n.vs n.cs ∧ Below w.heap.size w w' ∧ Far w.heap.size ak ∧ Far w.heap.size av ∧ Far w.heap.size ac
/-- Two nodes as one. -/
def Nod.both (n m : Nod) : Nod := ⟨m.lv, m.nx, n.lo, m.hi, m.la, n.ks ++ m.ks, n.vs ++ m.vs, n.cs ++ m.cs⟩
/-- While it joins: the boxes, the joined node's box, its rows. -/
structure JoinAt (w W3 wx : World) (G : Nat) (cA cB cM : Array Value) (vk vv vc : Value) (K : List ByteArray) (V : List Nat) (C : List Int) : Prop where
  p : PartsAt w wx cA cB #[.int .i64 0, .string ⟨#[]⟩, .string ⟨#[]⟩, .bool false, .int .i64 0, .slice none 0 0, .slice none 0 0, .slice none 0 0]
  m : NB wx G cM
  k : NewRow W3 wx 9 vk (K.map Value.string)
  v : NewRow W3 wx 50 vv (V.map uv)
  c : NewRow W3 wx 3 vc (C.map (Value.int .i64))
theorem join_fin {w W3 wl : World} {G : Nat} {cA cB : Array Value} {m0 m1 m2 m3 m4 m5 m6 m7 vk vv vc : Value} {K : List ByteArray} {V : List Nat} {C : List Int} (hG : w.heap.size + 3 ≤ G) (hG3 : G < W3.heap.size) (hp : PartsAt w wl cA cB #[.int .i64 0, .string ⟨#[]⟩, .string ⟨#[]⟩, .bool false, .int .i64 0, .slice none 0 0, .slice none 0 0, .slice none 0 0]) (hm : NB wl G #[m0, m1, m2, m3, m4, m5, m6, m7]) (hk : NewRow W3 wl 9 vk (K.map Value.string)) (hv : NewRow W3 wl 50 vv (V.map uv)) (hc : NewRow W3 wl 3 vc (C.map (Value.int .i64))) :
    JoinAt w W3 (((wl.setCell ⟨G, 5, none⟩ vk).setCell ⟨G, 6, none⟩ vv).setCell ⟨G, 7, none⟩ vc) G cA cB #[m0, m1, m2, m3, m4, vk, vv, vc] vk vv vc K V C := by
  have hf : ∀ g, W3.heap.size ≤ g → (((wl.setCell ⟨G, 5, none⟩ vk).setCell ⟨G, 6, none⟩ vv).setCell ⟨G, 7, none⟩ vc).heap[g]? = wl.heap[g]? := fun g hg => by
    have hne : g ≠ G := by omega
    rw [Below.heap_setCell _ ⟨G, 7, none⟩ vc g hne, Below.heap_setCell _ ⟨G, 6, none⟩ vv g hne, Below.heap_setCell _ ⟨G, 5, none⟩ vk g hne]
  exact ⟨((hp.other G 5 hG vk).other G 6 hG vv).other G 7 hG vc, ((hm.s5 vk).s6 vv).s7 vc, hk.far hf, hv.far hf, hc.far hf⟩

set_option maxHeartbeats 8000000 in
set_option maxRecDepth 100000 in
theorem joined_any (lv nx : Int) (lo hi : ByteArray) (la : Bool) (ak av ac : Option Addr) (ck cv cc : Nat) (lv2 nx2 : Int) (lo2 hi2 : ByteArray) (la2 : Bool) (ak2 av2 ac2 : Option Addr) (ck2 cv2 cc2 : Nat) (ks : List ByteArray) (vs : List Nat) (cs : List Int) (ks2 : List ByteArray) (vs2 : List Nat) (cs2 : List Int) (w : World) (hN : NdAt w ak av ac ks.length ck vs.length cv cs.length cc ks vs cs) (hM : NdAt w ak2 av2 ac2 ks2.length ck2 vs2.length cv2 cs2.length cc2 ks2 vs2 cs2) (hn : ks.length + ks2.length ≤ 549755813888 ∧ vs.length + vs2.length ≤ 549755813888 ∧ cs.length + cs2.length ≤ 549755813888) :
    Calls Try.prog 48 #[.agg #[.int .i64 lv, .string lo, .string hi, .bool la, .int .i64 nx, .slice ak ks.length ck, .slice av vs.length cv, .slice ac cs.length cc], .agg #[.int .i64 lv2, .string lo2, .string hi2, .bool la2, .int .i64 nx2, .slice ak2 ks2.length ck2, .slice av2 vs2.length cv2, .slice ac2 cs2.length cc2]] w fun e w' => JoinG w w' e (Nod.both ⟨lv, nx, lo, hi, la, ks, vs, cs⟩ ⟨lv2, nx2, lo2, hi2, la2, ks2, vs2, cs2⟩) := by
  obtain ⟨w1, hw1, n1, n2, n3, hB, hsz⟩ := boxes3 w #[.int .i64 lv, .string lo, .string hi, .bool la, .int .i64 nx, .slice ak ks.length ck, .slice av vs.length cv, .slice ac cs.length cc] #[.int .i64 lv2, .string lo2, .string hi2, .bool la2, .int .i64 nx2, .slice ak2 ks2.length ck2, .slice av2 vs2.length cv2, .slice ac2 cs2.length cc2] #[.int .i64 0, .string ⟨#[]⟩, .string ⟨#[]⟩, .bool false, .int .i64 0, .slice none 0 0, .slice none 0 0, .slice none 0 0]
  have HW1 := Lib.hid hw1
  have HSZ := Lib.hid hsz
  have HP1 : Hid (PartsAt w w1 #[.int .i64 lv, .string lo, .string hi, .bool la, .int .i64 nx, .slice ak ks.length ck, .slice av vs.length cv, .slice ac cs.length cc] #[.int .i64 lv2, .string lo2, .string hi2, .bool la2, .int .i64 nx2, .slice ak2 ks2.length ck2, .slice av2 vs2.length cv2, .slice ac2 cs2.length cc2] #[.int .i64 0, .string ⟨#[]⟩, .string ⟨#[]⟩, .bool false, .int .i64 0, .slice none 0 0, .slice none 0 0, .slice none 0 0]) := Lib.hid ⟨n1, n2, n3, hB⟩
  obtain ⟨W2, hW2⟩ : ∃ W, W = w1.alloc (.cells #[.int .i64 lv2, .string lo2, .string hi2, .bool la2, .int .i64 nx2, .slice ak2 ks2.length ck2, .slice av2 vs2.length cv2, .slice ac2 cs2.length cc2] 26) := ⟨_, rfl⟩
  have hx := boxed_below w1 (.cells #[.int .i64 lv2, .string lo2, .string hi2, .bool la2, .int .i64 nx2, .slice ak2 ks2.length ck2, .slice av2 vs2.length cv2, .slice ac2 cs2.length cc2] 26)
  have hm := NB.new w1 #[.int .i64 lv2, .string lo2, .string hi2, .bool la2, .int .i64 nx2, .slice ak2 ks2.length ck2, .slice av2 vs2.length cv2, .slice ac2 cs2.length cc2]
  rw [← hW2] at hx hm
  obtain ⟨W3, hW3⟩ : ∃ W, W = W2.setCell ⟨w1.heap.size, 1, none⟩ (.string lo) := ⟨_, rfl⟩
  have hG : w.heap.size + 3 ≤ w1.heap.size := by omega
  have HP3 : Hid (PartsAt w W3 #[.int .i64 lv, .string lo, .string hi, .bool la, .int .i64 nx, .slice ak ks.length ck, .slice av vs.length cv, .slice ac cs.length cc] #[.int .i64 lv2, .string lo2, .string hi2, .bool la2, .int .i64 nx2, .slice ak2 ks2.length ck2, .slice av2 vs2.length cv2, .slice ac2 cs2.length cc2] #[.int .i64 0, .string ⟨#[]⟩, .string ⟨#[]⟩, .bool false, .int .i64 0, .slice none 0 0, .slice none 0 0, .slice none 0 0]) := Lib.hid (by rw [hW3]; exact (HP1.out.keep hx).other w1.heap.size 1 hG _)
  have HM3 : Hid (NB W3 w1.heap.size #[.int .i64 lv2, .string lo, .string hi2, .bool la2, .int .i64 nx2, .slice ak2 ks2.length ck2, .slice av2 vs2.length cv2, .slice ac2 cs2.length cc2]) := Lib.hid (by rw [hW3]; exact hm.s1 _)
  have HG := Lib.hid hG
  have HG3 : Hid (w1.heap.size < W3.heap.size) := Lib.hid (lt_of_block HM3.out)
  have HJK := Lib.hid (fun W (h : Below w1.heap.size W3 W) => joinStr_any (.slice ak ks.length ck) (.slice ak2 ks2.length ck2) _ _ W (hN.keep (HP3.out.below.trans (h.mono (by omega)))).k (hM.keep (HP3.out.below.trans (h.mono (by omega)))).k (ones_str ks) (ones_str ks2) (by rw [List.length_map, List.length_map]; exact hn.1))
  have HJV := Lib.hid (fun W (h : Below w1.heap.size W3 W) => joinU64_any (.slice av vs.length cv) (.slice av2 vs2.length cv2) _ _ W (hN.keep (HP3.out.below.trans (h.mono (by omega)))).v (hM.keep (HP3.out.below.trans (h.mono (by omega)))).v (ones_u64 vs) (ones_u64 vs2) (by rw [List.length_map, List.length_map]; exact hn.2.1))
  have HJC := Lib.hid (fun W (h : Below w1.heap.size W3 W) => joinInt_any (.slice ac cs.length cc) (.slice ac2 cs2.length cc2) _ _ W (hN.keep (HP3.out.below.trans (h.mono (by omega)))).c (hM.keep (HP3.out.below.trans (h.mono (by omega)))).c (ones_int cs) (ones_int cs2) (by rw [List.length_map, List.length_map]; exact hn.2.2))
  rw [← List.map_append] at HJK HJV HJC
  have HLN : Hid ((ks ++ ks2).length ≤ 549755813888 ∧ (vs ++ vs2).length ≤ 549755813888 ∧ (cs ++ cs2).length ≤ 549755813888) := Lib.hid (by rw [List.length_append, List.length_append, List.length_append]; exact hn)
  have HNO : Hid (Nod.both ⟨lv, nx, lo, hi, la, ks, vs, cs⟩ ⟨lv2, nx2, lo2, hi2, la2, ks2, vs2, cs2⟩ = ⟨lv2, nx2, lo, hi2, la2, ks ++ ks2, vs ++ vs2, cs ++ cs2⟩) := Lib.hid rfl
  have HCC : Hid (∀ V, Below w1.heap.size W3 V → (V.cell? ⟨w.heap.size, 5, none⟩ = some (.slice ak ks.length ck) ∧ V.cell? ⟨w.heap.size, 6, none⟩ = some (.slice av vs.length cv) ∧ V.cell? ⟨w.heap.size, 7, none⟩ = some (.slice ac cs.length cc) ∧ V.cell? ⟨w.heap.size + 1, 5, none⟩ = some (.slice ak2 ks2.length ck2) ∧ V.cell? ⟨w.heap.size + 1, 6, none⟩ = some (.slice av2 vs2.length cv2) ∧ V.cell? ⟨w.heap.size + 1, 7, none⟩ = some (.slice ac2 cs2.length cc2)) ∧ Below w1.heap.size W3 V) := Lib.hid (fun V hb => by
    have kA : NB V w.heap.size #[.int .i64 lv, .string lo, .string hi, .bool la, .int .i64 nx, .slice ak ks.length ck, .slice av vs.length cv, .slice ac cs.length cc] := (hb.block _ (by omega)).trans HP3.out.n
    have kB : NB V (w.heap.size + 1) #[.int .i64 lv2, .string lo2, .string hi2, .bool la2, .int .i64 nx2, .slice ak2 ks2.length ck2, .slice av2 vs2.length cv2, .slice ac2 cs2.length cc2] := (hb.block _ (by omega)).trans HP3.out.l
    exact ⟨⟨kA.cells.2.2.2.2.2.1, kA.cells.2.2.2.2.2.2.1, kA.cells.2.2.2.2.2.2.2, kB.cells.2.2.2.2.2.1, kB.cells.2.2.2.2.2.2.1, kB.cells.2.2.2.2.2.2.2⟩, hb⟩)
  have hsa : Below W3.heap.size W3 W3 := Below.refl _ _
  obtain ⟨K0, hK0⟩ : ∃ x, x = ks ++ ks2 := ⟨_, rfl⟩
  obtain ⟨V0, hV0⟩ : ∃ x, x = vs ++ vs2 := ⟨_, rfl⟩
  obtain ⟨C0, hC0⟩ : ∃ x, x = cs ++ cs2 := ⟨_, rfl⟩
  rw [← hK0, ← hV0, ← hC0] at HLN HNO
  rw [← hK0] at HJK
  rw [← hV0] at HJV
  rw [← hC0] at HJC
  obtain ⟨q0, q1, q2, q3, q4, q5, q6, q7⟩ := n2.cells
  have z1 := n1.cells.2.1
  have x1 := (n1.below hx).cells.2.1
  have y1 := hm.cells.2.1
  have f1 := hm.frozen 1
  have HW2 := Lib.hid hW2
  have HW3 := Lib.hid hW3
  clear hN hM hn n1 n2 n3 hB hw1 hsz hW2 hW3 hx hm hG hK0 hV0 hC0 HP1 hsa
  go_enter Try.func48, Try.ntmps48
  go_upto_region 1 with fail
  rw [← HW1.out]
  go_upto_region 2 with fail
  rw [← HW2.out]
  go_upto_region 3 with fail
  rw [← HW3.out]
  clear q0 q1 q2 q3 q4 q5 q6 q7 z1 x1 y1 f1 HW1 HW2 HW3
  go_cut [] (fun wx => Hid (∃ a5 a6 a7, JoinAt w W3 wx w1.heap.size #[.int .i64 lv, .string lo, .string hi, .bool la, .int .i64 nx, .slice ak ks.length ck, .slice av vs.length cv, .slice ac cs.length cc] #[.int .i64 lv2, .string lo2, .string hi2, .bool la2, .int .i64 nx2, .slice ak2 ks2.length ck2, .slice av2 vs2.length cv2, .slice ac2 cs2.length cc2] #[.int .i64 lv2, .string lo, .string hi2, .bool la2, .int .i64 nx2, .slice a5 K0.length K0.length, .slice a6 V0.length V0.length, .slice a7 C0.length C0.length] (.slice a5 K0.length K0.length) (.slice a6 V0.length V0.length) (.slice a7 C0.length C0.length) K0 V0 C0))
  case first =>
    rename_i J1 KX1 hJ1 hKX1
    have hS0 := HCC.out W3.drew (Below.refl _ _).drew
    have hB0 : Below W3.heap.size W3 W3.drew := (Below.refl _ _).drew
    have hle13 : w1.heap.size ≤ W3.heap.size := Nat.le_of_lt HG3.out
    go_region_held_law (fun V => (V.cell? ⟨w.heap.size, 5, none⟩ = some (.slice ak ks.length ck) ∧ V.cell? ⟨w.heap.size, 6, none⟩ = some (.slice av vs.length cv) ∧ V.cell? ⟨w.heap.size, 7, none⟩ = some (.slice ac cs.length cc) ∧ V.cell? ⟨w.heap.size + 1, 5, none⟩ = some (.slice ak2 ks2.length ck2) ∧ V.cell? ⟨w.heap.size + 1, 6, none⟩ = some (.slice av2 vs2.length cv2) ∧ V.cell? ⟨w.heap.size + 1, 7, none⟩ = some (.slice ac2 cs2.length cc2)) ∧ Below w1.heap.size W3 V)
      (first | (with_reducible exact hS0) | (with_reducible exact hSK) | (with_reducible exact hSV) | (with_reducible exact hSC) | ((with_reducible refine HCC.out _ ?_); repeat' (first | (with_reducible assumption) | (with_reducible exact (hBK.mono hle13)) | (with_reducible exact (hBV.mono hle13)) | (with_reducible exact (hBC.mono hle13)) | (with_reducible refine Below.setCell ?_ ?_ _) | (exact Nat.le_refl _) | omega)))
      (first
        | (go_at_call 91; (with_reducible refine (HJK.out _ (And.right (by assumption))).mono ?_); rintro e wK ⟨vK, rfl, hrK, hbK⟩; obtain ⟨aK, rfl⟩ := hrK.open; rw [List.length_map] at hrK; rw [List.length_map]; have hBK : Below W3.heap.size W3 wK := Below.trans (by first | (with_reducible exact hB0) | (with_reducible exact hBK) | (with_reducible exact hBV) | (with_reducible exact hBC)) (Below.mono hbK (by first | (with_reducible exact hB0.size) | (with_reducible exact hBK.size) | (with_reducible exact hBV.size) | (with_reducible exact hBC.size))); have hSK := HCC.out _ (hBK.mono hle13); have HRK : Hid (NewRow W3 wK 9 _ _) := Lib.hid (NewRow.back hrK (by first | (with_reducible exact hB0.size) | (with_reducible exact hBK.size) | (with_reducible exact hBV.size) | (with_reducible exact hBC.size))); (try (have qV := NewRow.keep HRV.out hbK; have HRV := Lib.hid qV; clear qV)); (try (have qC := NewRow.keep HRC.out hbK; have HRC := Lib.hid qC; clear qC)); have m5 := (HM3.out.below hBK).cells.2.2.2.2.2.1; have m6 := (HM3.out.below hBK).cells.2.2.2.2.2.2.1; have m7 := (HM3.out.below hBK).cells.2.2.2.2.2.2.2; have g5 := (HM3.out.below hBK).frozen 5; have g6 := (HM3.out.below hBK).frozen 6; have g7 := (HM3.out.below hBK).frozen 7; clear hrK hbK)
        | (go_at_call 92; (with_reducible refine (HJV.out _ (And.right (by assumption))).mono ?_); rintro e wV ⟨vV, rfl, hrV, hbV⟩; obtain ⟨aV, rfl⟩ := hrV.open; rw [List.length_map] at hrV; rw [List.length_map]; have hBV : Below W3.heap.size W3 wV := Below.trans (by first | (with_reducible exact hB0) | (with_reducible exact hBK) | (with_reducible exact hBV) | (with_reducible exact hBC)) (Below.mono hbV (by first | (with_reducible exact hB0.size) | (with_reducible exact hBK.size) | (with_reducible exact hBV.size) | (with_reducible exact hBC.size))); have hSV := HCC.out _ (hBV.mono hle13); have HRV : Hid (NewRow W3 wV 50 _ _) := Lib.hid (NewRow.back hrV (by first | (with_reducible exact hB0.size) | (with_reducible exact hBK.size) | (with_reducible exact hBV.size) | (with_reducible exact hBC.size))); (try (have qK := NewRow.keep HRK.out hbV; have HRK := Lib.hid qK; clear qK)); (try (have qC := NewRow.keep HRC.out hbV; have HRC := Lib.hid qC; clear qC)); have m5 := (HM3.out.below hBV).cells.2.2.2.2.2.1; have m6 := (HM3.out.below hBV).cells.2.2.2.2.2.2.1; have m7 := (HM3.out.below hBV).cells.2.2.2.2.2.2.2; have g5 := (HM3.out.below hBV).frozen 5; have g6 := (HM3.out.below hBV).frozen 6; have g7 := (HM3.out.below hBV).frozen 7; clear hrV hbV)
        | (go_at_call 93; (with_reducible refine (HJC.out _ (And.right (by assumption))).mono ?_); rintro e wC ⟨vC, rfl, hrC, hbC⟩; obtain ⟨aC, rfl⟩ := hrC.open; rw [List.length_map] at hrC; rw [List.length_map]; have hBC : Below W3.heap.size W3 wC := Below.trans (by first | (with_reducible exact hB0) | (with_reducible exact hBK) | (with_reducible exact hBV) | (with_reducible exact hBC)) (Below.mono hbC (by first | (with_reducible exact hB0.size) | (with_reducible exact hBK.size) | (with_reducible exact hBV.size) | (with_reducible exact hBC.size))); have hSC := HCC.out _ (hBC.mono hle13); have HRC : Hid (NewRow W3 wC 3 _ _) := Lib.hid (NewRow.back hrC (by first | (with_reducible exact hB0.size) | (with_reducible exact hBK.size) | (with_reducible exact hBV.size) | (with_reducible exact hBC.size))); (try (have qK := NewRow.keep HRK.out hbC; have HRK := Lib.hid qK; clear qK)); (try (have qV := NewRow.keep HRV.out hbC; have HRV := Lib.hid qV; clear qV)); have m5 := (HM3.out.below hBC).cells.2.2.2.2.2.1; have m6 := (HM3.out.below hBC).cells.2.2.2.2.2.2.1; have m7 := (HM3.out.below hBC).cells.2.2.2.2.2.2.2; have g5 := (HM3.out.below hBC).frozen 5; have g6 := (HM3.out.below hBC).frozen 6; have g7 := (HM3.out.below hBC).frozen 7; clear hrC hbC))
    all_goals
      refine hKX1 _ _ (Met.intro (hJ1 _ _ ?_))
      (repeat apply Exists.intro)
      refine ⟨?_, rfl⟩
      first
        | (with_reducible exact Lib.hid ⟨_, _, _, join_fin HG.out HG3.out (HP3.out.keep hBK) (HM3.out.below hBK) HRK.out HRV.out HRC.out⟩)
        | (with_reducible exact Lib.hid ⟨_, _, _, join_fin HG.out HG3.out (HP3.out.keep hBV) (HM3.out.below hBV) HRK.out HRV.out HRC.out⟩)
        | (with_reducible exact Lib.hid ⟨_, _, _, join_fin HG.out HG3.out (HP3.out.keep hBC) (HM3.out.below hBC) HRK.out HRV.out HRC.out⟩)
  case rest =>
    obtain ⟨a5, a6, a7, hJ⟩ := hcut.out
    have HJ := Lib.hid hJ
    clear hcut hJ HJK HJV HJC HCC HM3
    obtain ⟨q0, q1, q2, q3, q4, q5, q6, q7⟩ := HJ.out.m.cells
    obtain ⟨t0, t1, t2, t3, t4, t5, t6, t7⟩ := HJ.out.p.r.cells
    have f0 := HJ.out.p.r.frozen 0
    have f1 := HJ.out.p.r.frozen 1
    have f2 := HJ.out.p.r.frozen 2
    have f3 := HJ.out.p.r.frozen 3
    have f4 := HJ.out.p.r.frozen 4
    have f5 := HJ.out.p.r.frozen 5
    have f6 := HJ.out.p.r.frozen 6
    have f7 := HJ.out.p.r.frozen 7
    go_wp2
    refine bodyPost_ret (v := .agg #[.int .i64 lv2, .string lo, .string hi2, .bool la2, .int .i64 nx2, .slice a5 K0.length K0.length, .slice a6 V0.length V0.length, .slice a7 C0.length C0.length]) (by simp [results, Try.results48, go_sem, *]) rfl ?_
    have hb := wr5_below (w.heap.size + 2) w.heap.size (by omega) [(0, .int .i64 lv2), (1, .string lo), (2, .string hi2), (3, .bool la2), (4, .int .i64 nx2), (5, .slice a5 K0.length K0.length), (6, .slice a6 V0.length V0.length), (7, .slice a7 C0.length C0.length)] w wc HJ.out.p.below
    have ho : ∀ g, W3.heap.size ≤ g → (wr5 wc (w.heap.size + 2) [(0, .int .i64 lv2), (1, .string lo), (2, .string hi2), (3, .bool la2), (4, .int .i64 nx2), (5, .slice a5 K0.length K0.length), (6, .slice a6 V0.length V0.length), (7, .slice a7 C0.length C0.length)]).heap[g]? = wc.heap[g]? := fun g hg => wr5_far _ g (by have := HG.out; have := HG3.out; omega) _ _
    have hk := HJ.out.k.far ho
    have hv := HJ.out.v.far ho
    have hc := HJ.out.c.far ho
    simp only [wr5] at hb hk hv hc
    have hz : w.heap.size ≤ W3.heap.size := HP3.out.below.size
    have hl := HLN.out
    rw [HNO.out]
    exact ⟨_, _, _, _, _, _, rfl, ⟨hk.rd (by rw [List.length_map]; omega), hv.rd (by rw [List.length_map]; omega), hc.rd (by rw [List.length_map]; omega)⟩, hb, (Far.of_new hk).base hz, (Far.of_new hv).base hz, (Far.of_new hc).base hz⟩
end Go.Proofs.Ytlcnnnljdffbmaa

namespace Go.Proofs.Ytlcnnnljdffbmaa
open Go.RowKit

/-- Does a row have v? -/
def HasK (n : Nat) (cs : List Int) (v : Int) : Prop := ∃ j, j < n ∧ ni cs j = v
theorem nbIn_any (lv nx : Int) (lo hi : ByteArray) (la : Bool) (ak av ac : Option Addr) (ck cv cc : Nat) (A : Nat) (ks : List ByteArray) (vs : List Nat) (cs : List Int) (kid : Int) (w : World) (hr : Rd w (.slice ac cs.length cc) (cs.map (Value.int .i64))) (hb : NB w A #[.int .i64 lv, .string lo, .string hi, .bool la, .int .i64 nx, .slice ak ks.length ck, .slice av vs.length cv, .slice ac cs.length cc]) :
    Calls Try.prog 89 #[.int .i64 kid, .pointer (some ⟨A, 0, none⟩)] w fun e w' => ∃ r : Bool, e = .returned (.bool r) ∧ (r = true ↔ HasK cs.length cs kid) ∧ w = w' := by
  have HC := Lib.hid (contains_any ac cs.length cc cs kid w hr)
  obtain ⟨q0, q1, q2, q3, q4, q5, q6, q7⟩ := hb.cells
  clear hr hb
  go_enter Try.func89, Try.ntmps89
  go_wp2_with fail
  refine HC.out.mono ?_
  rintro e wx ⟨r, rfl, hr, rfl⟩
  have HR := Lib.hid hr
  clear hr
  go_wp2
  go_ret
  exact ⟨r, rfl, HR.out, rfl⟩
set_option maxHeartbeats 2000000 in
set_option maxRecDepth 100000 in
theorem indexNb_any (lv nx : Int) (lo hi : ByteArray) (la : Bool) (ak av ac : Option Addr) (ck cv cc : Nat) (A : Nat) (ks : List ByteArray) (vs : List Nat) (cs : List Int) (ao : Option Addr) (n c : Nat) (zs : List Int) (w : World) (hz : Rd w (.slice ao n c) (zs.map (Value.int .i64))) (hr : Rd w (.slice ac cs.length cc) (cs.map (Value.int .i64))) (hb : NB w A #[.int .i64 lv, .string lo, .string hi, .bool la, .int .i64 nx, .slice ak ks.length ck, .slice av vs.length cv, .slice ac cs.length cc]) :
    Calls Try.prog 124 #[.slice ao n c, .func (.func 89) #[] #[.pointer (some ⟨A, 0, none⟩)]] w fun e w' => ∃ at_ : Int, e = .returned (.int .i64 at_) ∧ (0 ≤ at_ ↔ ∃ i, i < n ∧ HasK cs.length cs (ni zs i)) ∧ w = w' := by
  have HZ := Lib.hid hz
  have hl := rd_len hz
  have hl2 := hl.2.1
  have hl3 := hl.2.2
  have HK := Lib.hid (fun k => nbIn_any lv nx lo hi la ak av ac ck cv cc A ks vs cs k w hr hb)
  clear hz hr hb hl
  go_enter Try.func124, Try.ntmps124
  go_wp2
  go_loop [8] (fun s => ∃ i : Nat, s = .int .i64 i ∧ i ≤ n ∧ Hid (∀ j, j < i → ¬ HasK cs.length cs (ni zs j))) (fun s => n - (intOf s).toNat)
  case atStart => exact ⟨0, rfl, Nat.zero_le _, Lib.hid (fun j hj => absurd hj (Nat.not_lt_zero _))⟩
  case round =>
    obtain ⟨i, rfl, hi, hall⟩ := hrel
    by_cases hlt : i < n
    · obtain ⟨g, o, rfl, hc⟩ := rd_at HZ.out (0 : Int) i hlt
      have hc2 : w.cell? ⟨g, o + i, none⟩ = some (.int .i64 (ni zs i)) := hc i hlt
      have hlt' : (i : Int) < n := by omega
      have HK1 := Lib.hid (HK.out (ni zs i))
      have HI : Hid (HasK cs.length cs (ni zs i) → ∃ j, j < n ∧ HasK cs.length cs (ni zs j)) := Lib.hid (fun h => ⟨i, hlt, h⟩)
      have HN : Hid (¬ HasK cs.length cs (ni zs i) → ∀ j, j < i + 1 → ¬ HasK cs.length cs (ni zs j)) := Lib.hid (fun h j hj => by
        by_cases e : j = i
        · subst e; exact h
        · exact hall.out j (by omega))
      clear hc
      generalize hz : ni zs i = z at hc2 HK1 HI HN
      clear hz
      go_wp2_with fail
      refine HK1.out.mono ?_
      rintro e wx ⟨r, rfl, hr, rfl⟩
      have HR := Lib.hid hr
      clear hr
      cases r with
      | true =>
        have HE := Lib.hid (HI.out (HR.out.1 rfl))
        go_wp2
        go_ret
        exact ⟨(i : Int), rfl, ⟨fun _ => HE.out, fun _ => by omega⟩, rfl⟩
      | false =>
        have HN2 := Lib.hid (HN.out (fun h => by have := HR.out.2 h; cases this))
        go_wp2
        go_round
        case rel => exact ⟨i + 1, by go_num, by omega, HN2⟩
        case measure => simp [intOf]; omega
    · obtain rfl : i = n := by omega
      go_wp2
      go_ret
      exact ⟨-1, rfl, ⟨fun h => absurd h (by omega), fun ⟨j, hj, h⟩ => absurd h (hall.out j hj)⟩, rfl⟩
theorem containsNb_any (lv nx : Int) (lo hi : ByteArray) (la : Bool) (ak av ac : Option Addr) (ck cv cc : Nat) (A : Nat) (ks : List ByteArray) (vs : List Nat) (cs : List Int) (ao : Option Addr) (n c : Nat) (zs : List Int) (w : World) (hz : Rd w (.slice ao n c) (zs.map (Value.int .i64))) (hr : Rd w (.slice ac cs.length cc) (cs.map (Value.int .i64))) (hb : NB w A #[.int .i64 lv, .string lo, .string hi, .bool la, .int .i64 nx, .slice ak ks.length ck, .slice av vs.length cv, .slice ac cs.length cc]) :
    Calls Try.prog 88 #[.slice ao n c, .func (.func 89) #[] #[.pointer (some ⟨A, 0, none⟩)]] w fun e w' => ∃ r : Bool, e = .returned (.bool r) ∧ (r = true ↔ ∃ i, i < n ∧ HasK cs.length cs (ni zs i)) ∧ w = w' := by
  have HI := Lib.hid (indexNb_any lv nx lo hi la ak av ac ck cv cc A ks vs cs ao n c zs w hz hr hb)
  clear hz hr hb
  go_enter Try.func88, Try.ntmps88
  go_wp2_with fail
  refine HI.out.mono ?_
  rintro e wx ⟨at_, rfl, ha, rfl⟩
  have HA := Lib.hid ha
  clear ha
  go_wp2
  go_ret
  exact ⟨decide (0 ≤ at_), rfl, by rw [decide_eq_true_iff]; exact HA.out, rfl⟩

/-- Two nodes that are neighbours. -/
structure Nod.NbP (n m : Nod) : Prop where
  a : n.Sound 64
  b : m.Sound 64
  level : n.lv = m.lv
  last : n.la = false
  border : n.hi = m.lo
  apart : ∀ i, i < m.cs.length → ¬ HasK n.cs.length n.cs (ni m.cs i)
set_option maxHeartbeats 4000000 in
set_option maxRecDepth 100000 in
theorem nb_of (lv nx : Int) (lo hi : ByteArray) (la : Bool) (ak av ac : Option Addr) (ck cv cc : Nat) (lv2 nx2 : Int) (lo2 hi2 : ByteArray) (la2 : Bool) (ak2 av2 ac2 : Option Addr) (ck2 cv2 cc2 : Nat) (ks : List ByteArray) (vs : List Nat) (cs : List Int) (ks2 : List ByteArray) (vs2 : List Nat) (cs2 : List Int) (b : Bool) (w : World) (hN : NdAt w ak av ac ks.length ck vs.length cv cs.length cc ks vs cs) (hM : NdAt w ak2 av2 ac2 ks2.length ck2 vs2.length cv2 cs2.length cc2 ks2 vs2 cs2) (hf : Fit lo hi ks ks.length vs.length cs.length) (hg : Fit lo2 hi2 ks2 ks2.length vs2.length cs2.length)
    (hb : b = true ↔ Nod.NbP ⟨lv, nx, lo, hi, la, ks, vs, cs⟩ ⟨lv2, nx2, lo2, hi2, la2, ks2, vs2, cs2⟩) :
    Calls Try.prog 47 #[.agg #[.int .i64 lv, .string lo, .string hi, .bool la, .int .i64 nx, .slice ak ks.length ck, .slice av vs.length cv, .slice ac cs.length cc], .agg #[.int .i64 lv2, .string lo2, .string hi2, .bool la2, .int .i64 nx2, .slice ak2 ks2.length ck2, .slice av2 vs2.length cv2, .slice ac2 cs2.length cc2]] w fun e w' => e = .returned (.bool b) ∧ Below w.heap.size w w' := by
  obtain ⟨n1, n2, hB⟩ := boxes2 w #[.int .i64 lv, .string lo, .string hi, .bool la, .int .i64 nx, .slice ak ks.length ck, .slice av vs.length cv, .slice ac cs.length cc] #[.int .i64 lv2, .string lo2, .string hi2, .bool la2, .int .i64 nx2, .slice ak2 ks2.length ck2, .slice av2 vs2.length cv2, .slice ac2 cs2.length cc2]
  obtain ⟨w1, hw1⟩ : ∃ w1, w1 = (w.alloc (.cells #[.int .i64 lv, .string lo, .string hi, .bool la, .int .i64 nx, .slice ak ks.length ck, .slice av vs.length cv, .slice ac cs.length cc] 26)).alloc (.cells #[.int .i64 lv2, .string lo2, .string hi2, .bool la2, .int .i64 nx2, .slice ak2 ks2.length ck2, .slice av2 vs2.length cv2, .slice ac2 cs2.length cc2] 26) := ⟨_, rfl⟩
  rw [← hw1] at n1 n2 hB
  have HB := Lib.hid hB
  have HN1 := Lib.hid n1
  have HN2 := Lib.hid n2
  have HW1 := Lib.hid hw1
  obtain ⟨l, hl⟩ := bool_or (SoundP lv nx lo hi la ks.length vs.length cs.length ks cs 64)
  obtain ⟨m, hm⟩ := bool_or (SoundP lv2 nx2 lo2 hi2 la2 ks2.length vs2.length cs2.length ks2 cs2 64)
  have HIA := Lib.hid (hsound_of lv nx lo hi la ak av ac ks.length ck vs.length cv cs.length cc ks vs cs l w1 (hN.keep hB) hf hl)
  have HIB := Lib.hid (fun W (h : Below w.heap.size w W) => hsound_of lv2 nx2 lo2 hi2 la2 ak2 av2 ac2 ks2.length ck2 vs2.length cv2 cs2.length cc2 ks2 vs2 cs2 m W (hM.keep h) hg hm)
  have HCF := Lib.hid (fun W (h : Below w.heap.size w W) hbx => containsNb_any lv nx lo hi la ak av ac ck cv cc w.heap.size ks vs cs ac2 cs2.length cc2 cs2 W (hM.keep h).c (hN.keep h).c hbx)
  have HLL := Lib.hid hl
  have HMM := Lib.hid hm
  have HBB := Lib.hid hb
  obtain ⟨q0, q1, q2, q3, q4, q5, q6, q7⟩ := n1.cells
  clear hN hM hf hg hb hl hm n1 n2 hB hw1
  go_enter Try.func47, Try.ntmps47
  go_wp2_with fail
  rw [← HW1.out]
  refine HIA.out.mono ?_
  rintro e w2 ⟨rfl, hb2⟩
  have HB2 := Lib.hid (HB.out.trans (hb2.mono HB.out.size))
  have HA2 := Lib.hid (HN1.out.below hb2)
  have HC2 := Lib.hid (HN2.out.below hb2)
  clear hb2 q0 q1 q2 q3 q4 q5 q6 q7 HIA HW1
  cases l with
  | false =>
    have HF : Hid (b = false) := Lib.hid (bool_no HBB.out (fun h => by have := HLL.out.2 h.a; cases this))
    go_wp2
    go_ret
    exact ⟨by rw [HF.out]; rfl, HB2.out⟩
  | true =>
  obtain ⟨q0, q1, q2, q3, q4, q5, q6, q7⟩ := HC2.out.cells
  go_wp2_with fail
  refine (HIB.out _ HB2.out).mono ?_
  rintro e w3 ⟨rfl, hb3⟩
  have HB3 := Lib.hid (HB2.out.trans (hb3.mono HB2.out.size))
  have HA3 := Lib.hid (HA2.out.below hb3)
  have HC3 := Lib.hid (HC2.out.below hb3)
  clear hb3 q0 q1 q2 q3 q4 q5 q6 q7 HIB
  cases m with
  | false =>
    have HF : Hid (b = false) := Lib.hid (bool_no HBB.out (fun h => by have := HMM.out.2 h.b; cases this))
    go_wp2
    go_ret
    exact ⟨by rw [HF.out]; rfl, HB3.out⟩
  | true =>
  obtain ⟨q0, q1, q2, q3, q4, q5, q6, q7⟩ := HC3.out.cells
  obtain ⟨p0, p1, p2, p3, p4, p5, p6, p7⟩ := HA3.out.cells
  by_cases hlv : lv = lv2
  case neg =>
    have HF : Hid (b = false) := Lib.hid (bool_no HBB.out (fun h => hlv h.level))
    have hd : (lv == lv2) = false := beq_eq_false_iff_ne.2 hlv
    have hd2 : (lv != lv2) = true := bne_iff_ne.2 hlv
    clear hlv
    go_wp2
    go_ret
    exact ⟨by rw [HF.out]; rfl, HB3.out⟩
  have HLV := Lib.hid hlv
  have hd : (lv == lv2) = true := beq_iff_eq.2 hlv
  have hd2 : (lv != lv2) = false := by rw [hlv]; simp
  clear hlv
  cases hla : la with
  | true =>
    have HF : Hid (b = false) := Lib.hid (bool_no HBB.out (fun h => by have := h.last; simp only at this; rw [hla] at this; cases this))
    go_wp2
    go_ret
    exact ⟨by rw [HF.out]; rfl, HB3.out⟩
  | false =>
  have HLA := Lib.hid hla
  by_cases hbo : hi = lo2
  case neg =>
    have HF : Hid (b = false) := Lib.hid (bool_no HBB.out (fun h => hbo h.border))
    have he : (hi.toList == lo2.toList) = false := text_ne hbo
    have he2 : (hi.toList != lo2.toList) = true := by rw [bne, he]; rfl
    clear hbo
    go_wp2
    go_ret
    exact ⟨by rw [HF.out]; rfl, HB3.out⟩
  have HBO := Lib.hid hbo
  have he : (hi.toList == lo2.toList) = true := by rw [hbo]; simp
  have he2 : (hi.toList != lo2.toList) = false := by rw [bne, he]; rfl
  clear hbo
  go_wp2_with fail
  refine (HCF.out _ HB3.out HA3.out).mono ?_
  rintro e wx ⟨r, rfl, hr, rfl⟩
  have HR := Lib.hid hr
  clear hr
  cases r with
  | true =>
    have HF : Hid (b = false) := Lib.hid (bool_no HBB.out (fun h => by
      obtain ⟨i, hi, g⟩ := HR.out.1 rfl
      exact h.apart i hi g))
    go_wp2
    go_ret
    exact ⟨by rw [HF.out]; rfl, HB3.out⟩
  | false =>
    have HT : Hid (b = true) := Lib.hid (HBB.out.2 ⟨HLL.out.1 (by first | exact rfl | exact trivial), HMM.out.1 (by first | exact rfl | exact trivial), HLV.out, HLA.out, HBO.out, fun i hi g => by have := HR.out.2 ⟨i, hi, g⟩; cases this⟩)
    go_wp2
    go_ret
    exact ⟨by rw [HT.out]; rfl, HB3.out⟩
end Go.Proofs.Ytlcnnnljdffbmaa

namespace Go.Proofs.Ytlcnnnljdffbmaa
open Go.RowKit

def Nod.MergeP (n m : Nod) (fan : Int) : Prop := n.NbP m ∧ (4 ≤ fan ∧ fan ≤ 64) ∧ (n.both m).Sound fan

set_option maxHeartbeats 8000000 in
set_option maxRecDepth 100000 in
theorem merge_of (lv nx : Int) (lo hi : ByteArray) (la : Bool) (ak av ac : Option Addr) (ck cv cc : Nat) (lv2 nx2 : Int) (lo2 hi2 : ByteArray) (la2 : Bool) (ak2 av2 ac2 : Option Addr) (ck2 cv2 cc2 : Nat) (ks : List ByteArray) (vs : List Nat) (cs : List Int) (ks2 : List ByteArray) (vs2 : List Nat) (cs2 : List Int) (fan : Int) (b : Bool) (w : World) (hN : NdAt w ak av ac ks.length ck vs.length cv cs.length cc ks vs cs) (hM : NdAt w ak2 av2 ac2 ks2.length ck2 vs2.length cv2 cs2.length cc2 ks2 vs2 cs2) (hf : Fit lo hi ks ks.length vs.length cs.length) (hg : Fit lo2 hi2 ks2 ks2.length vs2.length cs2.length)
    (hs : ks.length + ks2.length ≤ 200000 ∧ vs.length + vs2.length ≤ 200000 ∧ cs.length + cs2.length ≤ 200000) (hb : b = true ↔ (⟨lv, nx, lo, hi, la, ks, vs, cs⟩ : Nod).MergeP (⟨lv2, nx2, lo2, hi2, la2, ks2, vs2, cs2⟩ : Nod) fan) :
    Calls Try.prog 10 #[.agg #[.int .i64 lv, .string lo, .string hi, .bool la, .int .i64 nx, .slice ak ks.length ck, .slice av vs.length cv, .slice ac cs.length cc], .agg #[.int .i64 lv2, .string lo2, .string hi2, .bool la2, .int .i64 nx2, .slice ak2 ks2.length ck2, .slice av2 vs2.length cv2, .slice ac2 cs2.length cc2], .int .i64 fan] w fun e w' => GaveN w w' e b (Nod.or b ((⟨lv, nx, lo, hi, la, ks, vs, cs⟩ : Nod).both (⟨lv2, nx2, lo2, hi2, la2, ks2, vs2, cs2⟩ : Nod))) := by
  obtain ⟨w1, hw1, n1, n2, n3, hB, hsz⟩ := boxes3 w #[.int .i64 lv, .string lo, .string hi, .bool la, .int .i64 nx, .slice ak ks.length ck, .slice av vs.length cv, .slice ac cs.length cc] #[.int .i64 lv2, .string lo2, .string hi2, .bool la2, .int .i64 nx2, .slice ak2 ks2.length ck2, .slice av2 vs2.length cv2, .slice ac2 cs2.length cc2] #[.int .i64 0, .string ⟨#[]⟩, .string ⟨#[]⟩, .bool false, .int .i64 0, .slice none 0 0, .slice none 0 0, .slice none 0 0]
  have HW1 := Lib.hid hw1
  have HP1 : Hid (PartsAt w w1 #[.int .i64 lv, .string lo, .string hi, .bool la, .int .i64 nx, .slice ak ks.length ck, .slice av vs.length cv, .slice ac cs.length cc] #[.int .i64 lv2, .string lo2, .string hi2, .bool la2, .int .i64 nx2, .slice ak2 ks2.length ck2, .slice av2 vs2.length cv2, .slice ac2 cs2.length cc2] #[.int .i64 0, .string ⟨#[]⟩, .string ⟨#[]⟩, .bool false, .int .i64 0, .slice none 0 0, .slice none 0 0, .slice none 0 0]) := Lib.hid ⟨n1, n2, n3, hB⟩
  obtain ⟨l, hl⟩ := bool_or ((⟨lv, nx, lo, hi, la, ks, vs, cs⟩ : Nod).NbP (⟨lv2, nx2, lo2, hi2, la2, ks2, vs2, cs2⟩ : Nod))
  have HNB := Lib.hid (nb_of lv nx lo hi la ak av ac ck cv cc lv2 nx2 lo2 hi2 la2 ak2 av2 ac2 ck2 cv2 cc2 ks vs cs ks2 vs2 cs2 l w1 (hN.keep hB) (hM.keep hB) hf hg hl)
  have HJN := Lib.hid (fun W (h : Below w.heap.size w W) => joined_any lv nx lo hi la ak av ac ck cv cc lv2 nx2 lo2 hi2 la2 ak2 av2 ac2 ck2 cv2 cc2 ks vs cs ks2 vs2 cs2 W (hN.keep h) (hM.keep h) (by omega))
  have HLL := Lib.hid hl
  have HBB := Lib.hid hb
  obtain ⟨X, hX⟩ : ∃ X, X = (⟨lv, nx, lo, hi, la, ks, vs, cs⟩ : Nod).both (⟨lv2, nx2, lo2, hi2, la2, ks2, vs2, cs2⟩ : Nod) := ⟨_, rfl⟩
  have HFX : Hid (Fit X.lo X.hi X.ks X.ks.length X.vs.length X.cs.length) := Lib.hid (by
    subst hX
    refine ⟨hf.lo, hg.hi, fun x hx => ?_, ?_⟩
    · rcases List.mem_append.1 (show x ∈ ks ++ ks2 from hx) with h | h
      · exact hf.ks x h
      · exact hg.ks x h
    · show (ks ++ ks2).length ≤ _ ∧ (vs ++ vs2).length ≤ _ ∧ (cs ++ cs2).length ≤ _
      rw [List.length_append, List.length_append, List.length_append]; omega)
  rw [← hX] at HJN
  have HXX := Lib.hid hX
  obtain ⟨q0, q1, q2, q3, q4, q5, q6, q7⟩ := n1.cells
  obtain ⟨p0, p1, p2, p3, p4, p5, p6, p7⟩ := n2.cells
  clear hN hM hf hg hs hb hl n1 n2 n3 hB hw1 hX
  go_enter Try.func10, Try.ntmps10
  go_wp2_with fail
  rw [← HW1.out]
  refine HNB.out.mono ?_
  rintro e w2 ⟨rfl, hb2⟩
  have HP2 := Lib.hid (HP1.out.keep hb2)
  clear hb2 q0 q1 q2 q3 q4 q5 q6 q7 p0 p1 p2 p3 p4 p5 p6 p7 HNB HW1
  cases l with
  | false =>
    have HF : Hid (b = false) := Lib.hid (bool_no HBB.out (fun h => by have := HLL.out.2 h.1; cases this))
    obtain ⟨t0, t1, t2, t3, t4, t5, t6, t7⟩ := HP2.out.r.cells
    have f0 := HP2.out.r.frozen 0
    have f1 := HP2.out.r.frozen 1
    have f2 := HP2.out.r.frozen 2
    have f3 := HP2.out.r.frozen 3
    have f4 := HP2.out.r.frozen 4
    have f5 := HP2.out.r.frozen 5
    have f6 := HP2.out.r.frozen 6
    have f7 := HP2.out.r.frozen 7
    go_wp2
    refine bodyPost_ret (v := .tuple #[.agg #[.int .i64 0, .string ⟨#[]⟩, .string ⟨#[]⟩, .bool false, .int .i64 0, .slice none 0 0, .slice none 0 0, .slice none 0 0], .bool false]) (by simp [results, Try.results10, go_sem, *]) rfl ?_
    rw [HF.out, Nod.ior_no]
    exact igave_none (wr5_below (w.heap.size + 2) w.heap.size (by omega) [(0, _), (1, _), (2, _), (3, _), (4, _), (5, _), (6, _), (7, _)] w _ HP2.out.below)
  | true =>
  have HNP := Lib.hid (HLL.out.1 rfl)
  obtain ⟨q0, q1, q2, q3, q4, q5, q6, q7⟩ := HP2.out.n.cells
  obtain ⟨p0, p1, p2, p3, p4, p5, p6, p7⟩ := HP2.out.l.cells
  go_wp2_with fail
  refine (HJN.out _ HP2.out.below).mono ?_
  rintro e w3 ⟨ak3, av3, ac3, ck3, cv3, cc3, rfl, hnd, hb3, h1, h2, h3⟩
  obtain ⟨W3, hW3⟩ : ∃ W, W = w3.alloc (.cells #[.int .i64 X.lv, .string X.lo, .string X.hi, .bool X.la, .int .i64 X.nx, .slice ak3 X.ks.length ck3, .slice av3 X.vs.length cv3, .slice ac3 X.cs.length cc3] 26) := ⟨_, rfl⟩
  have hx := boxed_below w3 (.cells #[.int .i64 X.lv, .string X.lo, .string X.hi, .bool X.la, .int .i64 X.nx, .slice ak3 X.ks.length ck3, .slice av3 X.vs.length cv3, .slice ac3 X.cs.length cc3] 26)
  have HM3 : Hid (NB W3 w3.heap.size #[.int .i64 X.lv, .string X.lo, .string X.hi, .bool X.la, .int .i64 X.nx, .slice ak3 X.ks.length ck3, .slice av3 X.vs.length cv3, .slice ac3 X.cs.length cc3]) := Lib.hid (by rw [hW3]; exact NB.new _ _)
  rw [← hW3] at hx
  have HB23 := Lib.hid (hb3.trans (hx.mono hb3.size))
  have HD3 := Lib.hid (hnd.keep hx)
  have HP3 := Lib.hid (HP2.out.keep HB23.out)
  have HFR := Lib.hid (And.intro h1 (And.intro h2 h3))
  have HW3 := Lib.hid hW3
  clear hW3 hx hnd hb3 h1 h2 h3 q0 q1 q2 q3 q4 q5 q6 q7 p0 p1 p2 p3 p4 p5 p6 p7 HJN
  go_upto_region 4 with fail
  rw [← HW3.out]
  clear HW3
  obtain ⟨cb, hcb⟩ := bool_or ((4 ≤ fan ∧ fan ≤ 64) ∧ SoundP X.lv X.nx X.lo X.hi X.la X.ks.length X.vs.length X.cs.length X.ks X.cs fan)
  have HCK := Lib.hid (check_of X.lv X.nx X.lo X.hi X.la ak3 av3 ac3 X.ks.length ck3 X.vs.length cv3 X.cs.length cc3 X.ks X.vs X.cs fan cb W3 HD3.out HFX.out hcb)
  have HBC : Hid (b = cb) := Lib.hid (by
    have h1 : b = true ↔ cb = true := by
      rw [HBB.out, hcb]
      unfold Nod.MergeP
      rw [← HXX.out]
      exact ⟨fun h => ⟨h.2.1, h.2.2⟩, fun h => ⟨HNP.out, h.1, h.2⟩⟩
    cases b <;> cases cb <;> simp at h1 ⊢)
  clear hcb
  obtain ⟨q0, q1, q2, q3, q4, q5, q6, q7⟩ := HM3.out.cells
  go_wp2_with fail
  refine HCK.out.mono ?_
  rintro e w4 ⟨c, rfl, _, hc, hb4⟩
  have HP4 := Lib.hid (HP3.out.keep hb4)
  have HM4 := Lib.hid (HM3.out.below hb4)
  have HD4 := Lib.hid (HD3.out.keep hb4)
  have HB24 := Lib.hid (HB23.out.trans (hb4.mono HB23.out.size))
  clear hb4 q0 q1 q2 q3 q4 q5 q6 q7 HCK
  cases cb with
  | false =>
    have HF : Hid (b = false) := HBC
    obtain ⟨t0, t1, t2, t3, t4, t5, t6, t7⟩ := HP4.out.r.cells
    have f0 := HP4.out.r.frozen 0
    have f1 := HP4.out.r.frozen 1
    have f2 := HP4.out.r.frozen 2
    have f3 := HP4.out.r.frozen 3
    have f4 := HP4.out.r.frozen 4
    have f5 := HP4.out.r.frozen 5
    have f6 := HP4.out.r.frozen 6
    have f7 := HP4.out.r.frozen 7
    go_wp2
    refine bodyPost_ret (v := .tuple #[.agg #[.int .i64 0, .string ⟨#[]⟩, .string ⟨#[]⟩, .bool false, .int .i64 0, .slice none 0 0, .slice none 0 0, .slice none 0 0], .bool false]) (by simp [results, Try.results10, go_sem, *]) rfl ?_
    rw [HF.out, Nod.ior_no]
    exact igave_none (wr5_below (w.heap.size + 2) w.heap.size (by omega) [(0, _), (1, _), (2, _), (3, _), (4, _), (5, _), (6, _), (7, _)] w _ HP4.out.below)
  | true =>
    obtain ⟨q0, q1, q2, q3, q4, q5, q6, q7⟩ := HM4.out.cells
    obtain ⟨t0, t1, t2, t3, t4, t5, t6, t7⟩ := HP4.out.r.cells
    have f0 := HP4.out.r.frozen 0
    have f1 := HP4.out.r.frozen 1
    have f2 := HP4.out.r.frozen 2
    have f3 := HP4.out.r.frozen 3
    have f4 := HP4.out.r.frozen 4
    have f5 := HP4.out.r.frozen 5
    have f6 := HP4.out.r.frozen 6
    have f7 := HP4.out.r.frozen 7
    go_wp2
    refine bodyPost_ret (v := .tuple #[.agg #[.int .i64 X.lv, .string X.lo, .string X.hi, .bool X.la, .int .i64 X.nx, .slice ak3 X.ks.length ck3, .slice av3 X.vs.length cv3, .slice ac3 X.cs.length cc3], .bool true]) (by simp [results, Try.results10, go_sem, *]) rfl ?_
    have hgv : GaveN w2 w4 (.returned (.tuple #[.agg #[.int .i64 X.lv, .string X.lo, .string X.hi, .bool X.la, .int .i64 X.nx, .slice ak3 X.ks.length ck3, .slice av3 X.vs.length cv3, .slice ac3 X.cs.length cc3], .bool true])) true X := ⟨ak3, av3, ac3, ck3, cv3, cc3, rfl, HD4.out, HB24.out, HFR.out.1, HFR.out.2.1, HFR.out.2.2⟩
    have hfin := gave_stored hgv HP2.out.below (by omega) (by have := HP2.out.size; omega) (A := w.heap.size + 2) [(0, .int .i64 X.lv), (1, .string X.lo), (2, .string X.hi), (3, .bool X.la), (4, .int .i64 X.nx), (5, .slice ak3 X.ks.length ck3), (6, .slice av3 X.vs.length cv3), (7, .slice ac3 X.cs.length cc3)]
    simp only [wr5] at hfin
    rw [HBC.out, ← HXX.out]
    exact hfin
end Go.Proofs.Ytlcnnnljdffbmaa

namespace Go.Proofs.Ytlcnnnljdffbmaa
open Go.RowKit

def nodQ : Nod := ⟨0, -1, ⟨#[]⟩, ⟨#[]⟩, true, [⟨#[97]⟩, ⟨#[98]⟩, ⟨#[99]⟩, ⟨#[100]⟩], [1, 2, 3, 4], []⟩
def nodL : Nod := ⟨0, 7, ⟨#[]⟩, ⟨#[99]⟩, false, [⟨#[97]⟩, ⟨#[98]⟩], [1, 2], []⟩
def nodR : Nod := ⟨0, -1, ⟨#[99]⟩, ⟨#[]⟩, true, [⟨#[99]⟩, ⟨#[100]⟩], [3, 4], []⟩
theorem nodQ_rises : Rises nodQ.ks := by
  intro i hi
  have h : i + 1 < 4 := hi
  match i, h with
  | 0, _ => show _ = true; kernel_rfl
  | 1, _ => show _ = true; kernel_rfl
  | 2, _ => show _ = true; kernel_rfl
theorem nodQ_sound : nodQ.Sound 4 := by
  refine ⟨⟨by show (0 : Int) ≤ 0; omega, by show (0 : Int) < 14; omega⟩, ⟨by show _ ≤ 64; decide, fun _ => ⟨rfl, rfl⟩, fun h => (by cases h)⟩, ⟨by show ((4 : Nat) : Int) ≤ 4; omega, nodQ_rises, fun i hi => ?_⟩, ⟨fun _ => ⟨rfl, rfl, fun i hi => ?_⟩, fun h => absurd rfl h⟩⟩
  · have h : i < 4 := hi
    match i, h with
    | 0, _ => show _ = true; kernel_rfl
    | 1, _ => show _ = true; kernel_rfl
    | 2, _ => show _ = true; kernel_rfl
    | 3, _ => show _ = true; kernel_rfl
  · have h : i < 4 := hi
    match i, h with
    | 0, _ => show _ = true; kernel_rfl
    | 1, _ => show _ = true; kernel_rfl
    | 2, _ => show _ = true; kernel_rfl
    | 3, _ => show _ = true; kernel_rfl
theorem nodL_rises : Rises nodL.ks := by
  intro i hi
  have h : i + 1 < 2 := hi
  match i, h with
  | 0, _ => show _ = true; kernel_rfl
theorem nodL_sound : nodL.Sound 64 := by
  refine ⟨⟨by show (0 : Int) ≤ 0; omega, by show (0 : Int) < 14; omega⟩, ⟨by show _ ≤ 64; decide, fun h => (by cases h), fun _ => ⟨by kernel_rfl, by kernel_rfl, by kernel_rfl⟩⟩, ⟨by show ((2 : Nat) : Int) ≤ 64; omega, nodL_rises, fun i hi => ?_⟩, ⟨fun _ => ⟨rfl, rfl, fun i hi => ?_⟩, fun h => absurd rfl h⟩⟩
  · have h : i < 2 := hi
    match i, h with
    | 0, _ => show _ = true; kernel_rfl
    | 1, _ => show _ = true; kernel_rfl
  · have h : i < 2 := hi
    match i, h with
    | 0, _ => show _ = true; kernel_rfl
    | 1, _ => show _ = true; kernel_rfl
theorem nodR_rises : Rises nodR.ks := by
  intro i hi
  have h : i + 1 < 2 := hi
  match i, h with
  | 0, _ => show _ = true; kernel_rfl
theorem nodR_sound : nodR.Sound 64 := by
  refine ⟨⟨by show (0 : Int) ≤ 0; omega, by show (0 : Int) < 14; omega⟩, ⟨by show _ ≤ 64; decide, fun _ => ⟨rfl, rfl⟩, fun h => (by cases h)⟩, ⟨by show ((2 : Nat) : Int) ≤ 64; omega, nodR_rises, fun i hi => ?_⟩, ⟨fun _ => ⟨rfl, rfl, fun i hi => ?_⟩, fun h => absurd rfl h⟩⟩
  · have h : i < 2 := hi
    match i, h with
    | 0, _ => show _ = true; kernel_rfl
    | 1, _ => show _ = true; kernel_rfl
  · have h : i < 2 := hi
    match i, h with
    | 0, _ => show _ = true; kernel_rfl
    | 1, _ => show _ = true; kernel_rfl

theorem nodQ_left : nodQ.left 7 = nodL := by kernel_rfl
theorem nodQ_right : nodQ.right = nodR := by kernel_rfl
theorem nodQ_both : nodL.both nodR = nodQ := by kernel_rfl
theorem small_ks (n : Nod) (h : n.ks.all (fun x => decide (x.size ≤ 1)) = true) : ∀ x ∈ n.ks, x.size ≤ 140737488355328 := by
  intro x hx
  have := List.all_eq_true.1 h x hx
  have := of_decide_eq_true this
  omega
theorem nodQ_split : nodQ.SplitP 7 := ⟨nodQ_sound.mono (by omega), by show 2 ≤ 4; omega, by kernel_rfl⟩
theorem nodLR_merge : nodL.MergeP nodR 4 := ⟨⟨nodL_sound, nodR_sound, rfl, rfl, rfl, fun i hi => absurd (show i < 0 from hi) (Nat.not_lt_zero _)⟩, by omega, by rw [nodQ_both]; exact nodQ_sound⟩
theorem lsplit (ak av ac : Option Addr) (ck cv cc : Nat) (w : World) (hN : NdAt w ak av ac 4 ck 4 cv 0 cc nodQ.ks nodQ.vs nodQ.cs) : Calls Try.prog 9 #[.agg #[.int .i64 0, .string ⟨#[]⟩, .string ⟨#[]⟩, .bool true, .int .i64 (-1), .slice ak 4 ck, .slice av 4 cv, .slice ac 0 cc], .int .i64 7] w fun e w' => ∃ (ak1 av1 ac1 ak2 av2 ac2 : Option Addr) (ck1 cv1 cc1 ck2 cv2 cc2 : Nat), e = .returned (.tuple #[.agg #[.int .i64 0, .string ⟨#[]⟩, .string ⟨#[99]⟩, .bool false, .int .i64 7, .slice ak1 2 ck1, .slice av1 2 cv1, .slice ac1 0 cc1], .agg #[.int .i64 0, .string ⟨#[99]⟩, .string ⟨#[]⟩, .bool true, .int .i64 (-1), .slice ak2 2 ck2, .slice av2 2 cv2, .slice ac2 0 cc2], .bool true]) ∧ NdAt w' ak1 av1 ac1 2 ck1 2 cv1 0 cc1 nodL.ks nodL.vs nodL.cs ∧ NdAt w' ak2 av2 ac2 2 ck2 2 cv2 0 cc2 nodR.ks nodR.vs nodR.cs ∧ Below w.heap.size w w' := by
  have hb : true = true ↔ nodQ.SplitP 7 := ⟨fun _ => nodQ_split, fun _ => rfl⟩
  have h := split_of 0 (-1) ⟨#[]⟩ ⟨#[]⟩ true ak av ac ck cv cc nodQ.ks nodQ.vs nodQ.cs 7 true w hN ⟨by decide, by decide, small_ks nodQ (by kernel_rfl), ⟨by show (4 : Nat) ≤ _; omega, by show (4 : Nat) ≤ _; omega, by show (0 : Nat) ≤ _; omega⟩⟩ hb
  rw [show Nod.left ⟨0, -1, ⟨#[]⟩, ⟨#[]⟩, true, nodQ.ks, nodQ.vs, nodQ.cs⟩ 7 = nodL from nodQ_left, show Nod.right ⟨0, -1, ⟨#[]⟩, ⟨#[]⟩, true, nodQ.ks, nodQ.vs, nodQ.cs⟩ = nodR from nodQ_right] at h
  refine Calls.mono (show Calls Try.prog 9 #[.agg #[.int .i64 0, .string ⟨#[]⟩, .string ⟨#[]⟩, .bool true, .int .i64 (-1), .slice ak 4 ck, .slice av 4 cv, .slice ac 0 cc], .int .i64 7] w fun e w' => GaveTwo w w' e true nodL nodR from h) ?_
  rintro e w' ⟨ak1, av1, ac1, ak2, av2, ac2, ck1, cv1, cc1, ck2, cv2, cc2, rfl, d1, d2, hB, _⟩
  exact ⟨ak1, av1, ac1, ak2, av2, ac2, ck1, cv1, cc1, ck2, cv2, cc2, rfl, d1, d2, hB⟩
theorem lmerge (ak1 av1 ac1 ak2 av2 ac2 : Option Addr) (ck1 cv1 cc1 ck2 cv2 cc2 : Nat) (w : World) (hN : NdAt w ak1 av1 ac1 2 ck1 2 cv1 0 cc1 nodL.ks nodL.vs nodL.cs) (hM : NdAt w ak2 av2 ac2 2 ck2 2 cv2 0 cc2 nodR.ks nodR.vs nodR.cs) : Calls Try.prog 10 #[.agg #[.int .i64 0, .string ⟨#[]⟩, .string ⟨#[99]⟩, .bool false, .int .i64 7, .slice ak1 2 ck1, .slice av1 2 cv1, .slice ac1 0 cc1], .agg #[.int .i64 0, .string ⟨#[99]⟩, .string ⟨#[]⟩, .bool true, .int .i64 (-1), .slice ak2 2 ck2, .slice av2 2 cv2, .slice ac2 0 cc2], .int .i64 4] w fun e w' => ∃ (ak av ac : Option Addr) (ck cv cc : Nat), e = .returned (.tuple #[.agg #[.int .i64 0, .string ⟨#[]⟩, .string ⟨#[]⟩, .bool true, .int .i64 (-1), .slice ak 4 ck, .slice av 4 cv, .slice ac 0 cc], .bool true]) ∧ NdAt w' ak av ac 4 ck 4 cv 0 cc nodQ.ks nodQ.vs nodQ.cs ∧ Below w.heap.size w w' := by
  have hb : true = true ↔ nodL.MergeP nodR 4 := ⟨fun _ => nodLR_merge, fun _ => rfl⟩
  have h := merge_of 0 7 ⟨#[]⟩ ⟨#[99]⟩ false ak1 av1 ac1 ck1 cv1 cc1 0 (-1) ⟨#[99]⟩ ⟨#[]⟩ true ak2 av2 ac2 ck2 cv2 cc2 nodL.ks nodL.vs nodL.cs nodR.ks nodR.vs nodR.cs 4 true w hN hM ⟨by decide, by decide, small_ks nodL (by kernel_rfl), ⟨by show (2 : Nat) ≤ _; omega, by show (2 : Nat) ≤ _; omega, by show (0 : Nat) ≤ _; omega⟩⟩ ⟨by decide, by decide, small_ks nodR (by kernel_rfl), ⟨by show (2 : Nat) ≤ _; omega, by show (2 : Nat) ≤ _; omega, by show (0 : Nat) ≤ _; omega⟩⟩ (by show 2 + 2 ≤ 200000 ∧ 2 + 2 ≤ 200000 ∧ 0 + 0 ≤ 200000; omega) hb
  rw [show Nod.both ⟨0, 7, ⟨#[]⟩, ⟨#[99]⟩, false, nodL.ks, nodL.vs, nodL.cs⟩ ⟨0, -1, ⟨#[99]⟩, ⟨#[]⟩, true, nodR.ks, nodR.vs, nodR.cs⟩ = nodQ from nodQ_both] at h
  refine Calls.mono (show Calls Try.prog 10 #[.agg #[.int .i64 0, .string ⟨#[]⟩, .string ⟨#[99]⟩, .bool false, .int .i64 7, .slice ak1 2 ck1, .slice av1 2 cv1, .slice ac1 0 cc1], .agg #[.int .i64 0, .string ⟨#[99]⟩, .string ⟨#[]⟩, .bool true, .int .i64 (-1), .slice ak2 2 ck2, .slice av2 2 cv2, .slice ac2 0 cc2], .int .i64 4] w fun e w' => GaveN w w' e true nodQ from h) ?_
  rintro e w' ⟨ak, av, ac, ck, cv, cc, rfl, hnd, hB, _⟩
  exact ⟨ak, av, ac, ck, cv, cc, rfl, hnd, hB⟩
theorem lsame (ak av ac ak2 av2 ac2 : Option Addr) (ck cv cc ck2 cv2 cc2 : Nat) (w : World) (hN : NdAt w ak av ac 4 ck 4 cv 0 cc nodQ.ks nodQ.vs nodQ.cs) (hM : NdAt w ak2 av2 ac2 4 ck2 4 cv2 0 cc2 nodQ.ks nodQ.vs nodQ.cs) : Calls Try.prog 12 #[.agg #[.int .i64 0, .string ⟨#[]⟩, .string ⟨#[]⟩, .bool true, .int .i64 (-1), .slice ak 4 ck, .slice av 4 cv, .slice ac 0 cc], .agg #[.int .i64 0, .string ⟨#[]⟩, .string ⟨#[]⟩, .bool true, .int .i64 (-1), .slice ak2 4 ck2, .slice av2 4 cv2, .slice ac2 0 cc2]] w fun e w' => e = .returned (.bool true) ∧ Below w.heap.size w w' :=
  nsame_of 0 (-1) ⟨#[]⟩ ⟨#[]⟩ true ak av ac 4 ck 4 cv 0 cc 0 (-1) ⟨#[]⟩ ⟨#[]⟩ true ak2 av2 ac2 4 ck2 4 cv2 0 cc2 nodQ.ks nodQ.vs nodQ.cs nodQ.ks nodQ.vs nodQ.cs true w hN hM ⟨fun _ => ⟨rfl, rfl, rfl, rfl, rfl, rfl, rfl, rfl⟩, fun _ => rfl⟩

set_option maxHeartbeats 8000000 in
set_option maxRecDepth 100000 in
theorem lives13_any (w : World) : Calls Try.prog 8 #[] w fun e w' => e = .returned (.bool true) ∧ Below w.heap.size w w' := by
  have HSP := Lib.hid lsplit
  have HME := Lib.hid lmerge
  have HSA := Lib.hid lsame
  have HEM := Lib.hid empty_any
  go_enter Try.func8, Try.ntmps8
  go_wp2_with fail
  refine (HEM.out _).mono ?_
  rintro e w1 ⟨rfl, hb1⟩
  obtain ⟨w2, hw2⟩ : ∃ x, x = w1.alloc (.cells #[.int .i64 0, .string ⟨#[]⟩, .string ⟨#[]⟩, .bool true, .int .i64 (-1), .slice none 0 0, .slice none 0 0, .slice none 0 0] 26) := ⟨_, rfl⟩
  have n2 := NB.new w1 #[.int .i64 0, .string ⟨#[]⟩, .string ⟨#[]⟩, .bool true, .int .i64 (-1), .slice none 0 0, .slice none 0 0, .slice none 0 0]
  have b2 := hb1.trans ((boxed_below w1 (.cells #[.int .i64 0, .string ⟨#[]⟩, .string ⟨#[]⟩, .bool true, .int .i64 (-1), .slice none 0 0, .slice none 0 0, .slice none 0 0] 26)).mono hb1.size)
  rw [← hw2] at n2 b2
  have HW2 := Lib.hid hw2
  clear hw2
  go_upto_region 2 with fail
  rw [← HW2.out]
  -- the keys
  obtain ⟨w3, hw3⟩ : ∃ x, x = (w2.alloc (.cells #[.string ⟨#[97]⟩, .string ⟨#[98]⟩, .string ⟨#[99]⟩, .string ⟨#[100]⟩] 9)).setCell ⟨w1.heap.size, 5, none⟩ (.slice (some ⟨w2.heap.size, 0, none⟩) 4 4) := ⟨_, rfl⟩
  have x2 := boxed_below w2 (.cells #[.string ⟨#[97]⟩, .string ⟨#[98]⟩, .string ⟨#[99]⟩, .string ⟨#[100]⟩] 9)
  have n2a := n2.below x2
  have r2 : Whole (w2.alloc (.cells #[.string ⟨#[97]⟩, .string ⟨#[98]⟩, .string ⟨#[99]⟩, .string ⟨#[100]⟩] 9)) 9 w2.heap.size [.string ⟨#[97]⟩, .string ⟨#[98]⟩, .string ⟨#[99]⟩, .string ⟨#[100]⟩] := heap_alloc_new w2 _
  have n3 : NB w3 w1.heap.size #[.int .i64 0, .string ⟨#[]⟩, .string ⟨#[]⟩, .bool true, .int .i64 (-1), .slice (some ⟨w2.heap.size, 0, none⟩) 4 4, .slice none 0 0, .slice none 0 0] := by rw [hw3]; exact n2a.s5 _
  have r3 : Whole w3 9 w2.heap.size [.string ⟨#[97]⟩, .string ⟨#[98]⟩, .string ⟨#[99]⟩, .string ⟨#[100]⟩] := by rw [hw3]; exact NB.whole_far n2a r2 (by decide) 5 _
  have b3 : Below w.heap.size w w3 := by rw [hw3]; exact (b2.trans (x2.mono b2.size)).setCell hb1.size _
  have q5 := n2.cells.2.2.2.2.2.1
  have qa := n2a.cells.2.2.2.2.2.1
  have f5 := n2a.frozen 5
  have HW3 := Lib.hid hw3
  clear hw3
  clear HW2
  go_upto_region 3 with fail
  rw [← HW3.out]
  clear q5 qa f5 HW3
  obtain ⟨w4, hw4⟩ : ∃ x, x = (w3.alloc (.cells #[.int .u64 1, .int .u64 2, .int .u64 3, .int .u64 4] 50)).setCell ⟨w1.heap.size, 6, none⟩ (.slice (some ⟨w3.heap.size, 0, none⟩) 4 4) := ⟨_, rfl⟩
  have x3 := boxed_below w3 (.cells #[.int .u64 1, .int .u64 2, .int .u64 3, .int .u64 4] 50)
  have n3a := n3.below x3
  have r4 : Whole (w3.alloc (.cells #[.int .u64 1, .int .u64 2, .int .u64 3, .int .u64 4] 50)) 50 w3.heap.size [.int .u64 1, .int .u64 2, .int .u64 3, .int .u64 4] := heap_alloc_new w3 _
  have n4 : NB w4 w1.heap.size #[.int .i64 0, .string ⟨#[]⟩, .string ⟨#[]⟩, .bool true, .int .i64 (-1), .slice (some ⟨w2.heap.size, 0, none⟩) 4 4, .slice (some ⟨w3.heap.size, 0, none⟩) 4 4, .slice none 0 0] := by rw [hw4]; exact n3a.s6 _
  have r3b : Whole w4 9 w2.heap.size [.string ⟨#[97]⟩, .string ⟨#[98]⟩, .string ⟨#[99]⟩, .string ⟨#[100]⟩] := by rw [hw4]; exact NB.whole_far n3a (r3.keep x3) (by decide) 6 _
  have r4b : Whole w4 50 w3.heap.size [.int .u64 1, .int .u64 2, .int .u64 3, .int .u64 4] := by rw [hw4]; exact NB.whole_far n3a r4 (by decide) 6 _
  have b4 : Below w.heap.size w w4 := by rw [hw4]; exact (b3.trans (x3.mono b3.size)).setCell hb1.size _
  have q6 := n3.cells.2.2.2.2.2.2.1
  have qa := n3a.cells.2.2.2.2.2.2.1
  have f6 := n3a.frozen 6
  have HW4 := Lib.hid hw4
  clear hw4
  have HN4 := Lib.hid n4
  have HB4 := Lib.hid b4
  have HD4 : Hid (NdAt w4 (some ⟨w2.heap.size, 0, none⟩) (some ⟨w3.heap.size, 0, none⟩) none 4 4 4 4 0 0 nodQ.ks nodQ.vs nodQ.cs) := Lib.hid ⟨Whole.rd r3b (by decide), Whole.rd r4b (by decide), Rd.nil _⟩
  go_upto_region 4 with fail
  rw [← HW4.out]
  clear q6 qa f6 HW4 n2 b2 x2 n2a r2 n3 r3 b3 x3 n3a r4 n4 r3b r4b b4 hb1
  generalize (some ⟨w2.heap.size, 0, none⟩ : Option Addr) = ak at *
  generalize (some ⟨w3.heap.size, 0, none⟩ : Option Addr) = av at *
  obtain ⟨q0, q1, q2, q3, q4, q5, q6, q7⟩ := HN4.out.cells
  go_wp2_with fail
  refine (HSP.out _ _ _ _ _ _ _ HD4.out).mono ?_
  rintro e w5 ⟨ak1, av1, ac1, ak2, av2, ac2, ck1, cv1, cc1, ck2, cv2, cc2, rfl, d1, d2, hb5⟩
  obtain ⟨m1, m2, hB5⟩ := boxes2 w5 #[.int .i64 0, .string ⟨#[]⟩, .string ⟨#[99]⟩, .bool false, .int .i64 7, .slice ak1 2 ck1, .slice av1 2 cv1, .slice ac1 0 cc1] #[.int .i64 0, .string ⟨#[99]⟩, .string ⟨#[]⟩, .bool true, .int .i64 (-1), .slice ak2 2 ck2, .slice av2 2 cv2, .slice ac2 0 cc2]
  obtain ⟨W5, hW5⟩ : ∃ x, x = (w5.alloc (.cells #[.int .i64 0, .string ⟨#[]⟩, .string ⟨#[99]⟩, .bool false, .int .i64 7, .slice ak1 2 ck1, .slice av1 2 cv1, .slice ac1 0 cc1] 26)).alloc (.cells #[.int .i64 0, .string ⟨#[99]⟩, .string ⟨#[]⟩, .bool true, .int .i64 (-1), .slice ak2 2 ck2, .slice av2 2 cv2, .slice ac2 0 cc2] 26) := ⟨_, rfl⟩
  rw [← hW5] at m1 m2 hB5
  have HM1 := Lib.hid m1
  have HM2 := Lib.hid m2
  have HD1 := Lib.hid (d1.keep hB5)
  have HD2 := Lib.hid (d2.keep hB5)
  have HB5 := Lib.hid (hb5.trans (hB5.mono hb5.size))
  have HW5 := Lib.hid hW5
  clear m1 m2 d1 d2 hB5 hb5 hW5 q0 q1 q2 q3 q4 q5 q6 q7
  go_upto_region 5 with fail
  rw [← HW5.out]
  clear HW5
  obtain ⟨q0, q1, q2, q3, q4, q5, q6, q7⟩ := HM1.out.cells
  obtain ⟨p0, p1, p2, p3, p4, p5, p6, p7⟩ := HM2.out.cells
  go_wp2_with fail
  refine (HME.out _ _ _ _ _ _ _ _ _ _ _ _ _ HD1.out HD2.out).mono ?_
  rintro e w6 ⟨ak3, av3, ac3, ck3, cv3, cc3, rfl, d3, hb6⟩
  obtain ⟨W6, hW6⟩ : ∃ x, x = w6.alloc (.cells #[.int .i64 0, .string ⟨#[]⟩, .string ⟨#[]⟩, .bool true, .int .i64 (-1), .slice ak3 4 ck3, .slice av3 4 cv3, .slice ac3 0 cc3] 26) := ⟨_, rfl⟩
  have hx := boxed_below w6 (.cells #[.int .i64 0, .string ⟨#[]⟩, .string ⟨#[]⟩, .bool true, .int .i64 (-1), .slice ak3 4 ck3, .slice av3 4 cv3, .slice ac3 0 cc3] 26)
  have m3 := NB.new w6 #[.int .i64 0, .string ⟨#[]⟩, .string ⟨#[]⟩, .bool true, .int .i64 (-1), .slice ak3 4 ck3, .slice av3 4 cv3, .slice ac3 0 cc3]
  rw [← hW6] at hx m3
  have HM3 := Lib.hid m3
  have HD3 := Lib.hid (d3.keep hx)
  have HB6 := Lib.hid (hb6.trans (hx.mono hb6.size))
  have HB46 := Lib.hid (HB5.out.trans (HB6.out.mono HB5.out.size))
  have HW6 := Lib.hid hW6
  clear hx m3 d3 hb6 hW6 q0 q1 q2 q3 q4 q5 q6 q7 p0 p1 p2 p3 p4 p5 p6 p7
  go_upto_region 6 with fail
  rw [← HW6.out]
  clear HW6
  obtain ⟨q0, q1, q2, q3, q4, q5, q6, q7⟩ := (HM1.out.below HB6.out).cells
  obtain ⟨p0, p1, p2, p3, p4, p5, p6, p7⟩ := (HM2.out.below HB6.out).cells
  obtain ⟨t0, t1, t2, t3, t4, t5, t6, t7⟩ := HM3.out.cells
  obtain ⟨u0, u1, u2, u3, u4, u5, u6, u7⟩ := (HN4.out.below HB46.out).cells
  go_wp2_with fail
  refine (HSA.out _ _ _ _ _ _ _ _ _ _ _ _ _ HD3.out (HD4.out.keep HB46.out)).mono ?_
  rintro e w7 ⟨rfl, hb7⟩
  have HE := Lib.hid ((HB4.out.trans (HB46.out.mono HB4.out.size)).trans (hb7.mono (Nat.le_trans HB4.out.size HB46.out.size)))
  clear hb7
  go_wp2
  go_ret
  exact ⟨rfl, HE.out⟩
end Go.Proofs.Ytlcnnnljdffbmaa
