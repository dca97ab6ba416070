/- bowerref13.entries: some of a node's entries. Condition: places that are there, sizes that fit. bowerref13.Part: both parts of a node. Condition: at least two entries, as many of each row as the level has, sizes that fit. -/
import Derived.Test.YtmkglaghnjnooaaGrowRow
import Derived.Test.YtmkglaghnjnooaaInsMath
import Derived.Deep.RegionHeldLaw
import Derived.Deep.DeepCutAuto
import Derived.Test.YtmkglaghnjnooaaHalveTwo
namespace Go.Proofs.Ytmkglaghnjnooaa
open Go.RowKit

theorem nameWe {p : World → Prop} {w : World} (h : ∀ W, W = w → p W) : p w := h w rfl
theorem take_one {α : Type} (P : List α) (m : Nat) (h : m < P.length) (x : α) (hx : P[m]? = some x) : P.take m ++ [x] = P.take (m + 1) := by
  rw [List.take_succ_eq_append_getElem h]
  have : P[m] = x := by rw [List.getElem?_eq_getElem h] at hx; injection hx
  rw [this]
/-- While it gathers: the box, the result's box, three rows that grow. -/
structure EntAt (w wr : World) (c0 c1 c2 c3 c4 kv vv cv : Value) (a b d : Nat) (K V C : List Value) : Prop where
  box : NB wr w.heap.size #[c0, c1, c2, c3, c4, kv, vv, cv]
  res : NB wr (w.heap.size + 1) #[.int .i64 0, .string ⟨#[]⟩, .string ⟨#[]⟩, .bool false, .int .i64 0, .slice none 0 0, .slice none 0 0, .slice none 0 0]
  keys : wr.ownsRow (w.heap.size + 2) 9 1 kv a (K.take a)
  vals : wr.ownsRow (w.heap.size + 2) 51 1 vv b (V.take b)
  kids : wr.ownsRow (w.heap.size + 2) 3 1 cv d (C.take d)
  below : Below w.heap.size w wr
section
variable {w wr w9 : World} {c0 c1 c2 c3 c4 kv vv cv u x : Value} {a b d : Nat} {K V C : List Value}
theorem EntAt.keep (h : EntAt w wr c0 c1 c2 c3 c4 kv vv cv a b d K V C) (hb : Below wr.heap.size wr w9) : EntAt w w9 c0 c1 c2 c3 c4 kv vv cv a b d K V C :=
  ⟨h.box.below hb, h.res.below hb, own_stays h.keys hb, own_stays h.vals hb, own_stays h.kids hb, h.below.trans (hb.mono h.below.size)⟩
theorem EntAt.size (h : EntAt w wr c0 c1 c2 c3 c4 kv vv cv a b d K V C) : w.heap.size + 2 ≤ wr.heap.size := by have := lt_of_block h.res; omega
theorem EntAt.boxK (h : EntAt w wr c0 c1 c2 c3 c4 kv vv cv a b d K V C) (hg : wr.grownBy w9 kv.ownBlock) : NB w9 w.heap.size #[c0, c1, c2, c3, c4, kv, vv, cv] := h.box.grown hg (own_inT h.keys) (by decide)
theorem EntAt.addK (h : EntAt w wr c0 c1 c2 c3 c4 kv vv cv a b d K V C) (hg : wr.grownBy w9 kv.ownBlock) (ho : w9.ownsRow (w.heap.size + 2) 9 1 u (a + 1) (K.take a ++ [x])) (ha : a < K.length) (hx : K[a]? = some x) :
    EntAt w (w9.setCell ⟨w.heap.size, 5, none⟩ u) c0 c1 c2 c3 c4 u vv cv (a + 1) b d K V C := by
  have hr := own_inT h.keys
  have b9 := h.boxK hg
  have r9 := h.res.grown hg hr (by decide)
  have o1 := own_keeps h.vals hg hr (by decide)
  have o2 := own_keeps h.kids hg hr (by decide)
  have hs := grown_set w9 w.heap.size 5 u
  have hn := nb_inT b9
  rw [take_one K a ha x hx] at ho
  have p1 := own_keeps o1 hs hn (by decide)
  have p2 := own_keeps o2 hs hn (by decide)
  have p3 := own_keeps ho hs hn (by decide)
  have hb : Below w.heap.size w (w9.setCell ⟨w.heap.size, 5, none⟩ u) := (h.below.grown hg h.below.size (fun k hk => by have := (h.keys.lt k hk).1; omega)).setCell (Nat.le_refl _) u
  exact ⟨b9.s5 u, r9.far (by show w.heap.size + 1 ≠ w.heap.size; omega) u, p3, p1, p2, hb⟩
theorem EntAt.boxV (h : EntAt w wr c0 c1 c2 c3 c4 kv vv cv a b d K V C) (hg : wr.grownBy w9 vv.ownBlock) : NB w9 w.heap.size #[c0, c1, c2, c3, c4, kv, vv, cv] := h.box.grown hg (own_inT h.vals) (by decide)
theorem EntAt.addV (h : EntAt w wr c0 c1 c2 c3 c4 kv vv cv a b d K V C) (hg : wr.grownBy w9 vv.ownBlock) (ho : w9.ownsRow (w.heap.size + 2) 51 1 u (b + 1) (V.take b ++ [x])) (ha : b < V.length) (hx : V[b]? = some x) :
    EntAt w (w9.setCell ⟨w.heap.size, 6, none⟩ u) c0 c1 c2 c3 c4 kv u cv a (b + 1) d K V C := by
  have hr := own_inT h.vals
  have b9 := h.boxV hg
  have r9 := h.res.grown hg hr (by decide)
  have o1 := own_keeps h.keys hg hr (by decide)
  have o2 := own_keeps h.kids hg hr (by decide)
  have hs := grown_set w9 w.heap.size 6 u
  have hn := nb_inT b9
  rw [take_one V b ha x hx] at ho
  have p1 := own_keeps o1 hs hn (by decide)
  have p2 := own_keeps o2 hs hn (by decide)
  have p3 := own_keeps ho hs hn (by decide)
  have hb : Below w.heap.size w (w9.setCell ⟨w.heap.size, 6, none⟩ u) := (h.below.grown hg h.below.size (fun k hk => by have := (h.vals.lt k hk).1; omega)).setCell (Nat.le_refl _) u
  exact ⟨b9.s6 u, r9.far (by show w.heap.size + 1 ≠ w.heap.size; omega) u, p1, p3, p2, hb⟩
theorem EntAt.boxC (h : EntAt w wr c0 c1 c2 c3 c4 kv vv cv a b d K V C) (hg : wr.grownBy w9 cv.ownBlock) : NB w9 w.heap.size #[c0, c1, c2, c3, c4, kv, vv, cv] := h.box.grown hg (own_inT h.kids) (by decide)
theorem EntAt.addC (h : EntAt w wr c0 c1 c2 c3 c4 kv vv cv a b d K V C) (hg : wr.grownBy w9 cv.ownBlock) (ho : w9.ownsRow (w.heap.size + 2) 3 1 u (d + 1) (C.take d ++ [x])) (ha : d < C.length) (hx : C[d]? = some x) :
    EntAt w (w9.setCell ⟨w.heap.size, 7, none⟩ u) c0 c1 c2 c3 c4 kv vv u a b (d + 1) K V C := by
  have hr := own_inT h.kids
  have b9 := h.boxC hg
  have r9 := h.res.grown hg hr (by decide)
  have o1 := own_keeps h.keys hg hr (by decide)
  have o2 := own_keeps h.vals hg hr (by decide)
  have hs := grown_set w9 w.heap.size 7 u
  have hn := nb_inT b9
  rw [take_one C d ha x hx] at ho
  have p1 := own_keeps o1 hs hn (by decide)
  have p2 := own_keeps o2 hs hn (by decide)
  have p3 := own_keeps ho hs hn (by decide)
  have hb : Below w.heap.size w (w9.setCell ⟨w.heap.size, 7, none⟩ u) := (h.below.grown hg h.below.size (fun k hk => by have := (h.kids.lt k hk).1; omega)).setCell (Nat.le_refl _) u
  exact ⟨b9.s7 u, r9.far (by show w.heap.size + 1 ≠ w.heap.size; omega) u, p1, p2, p3, hb⟩
end
/-- A node is told, with new rows. -/
def EntGives (w w' : World) (e : Ending) (lv nx : Int) (lo hi : ByteArray) (la : Bool) (P : List ByteArray) (V : List Nat) (R : List Int) : Prop :=
  ∃ (ka va ca : Option Addr) (kc vc cc : Nat), e = .returned (.agg #[.int .i64 lv, .string lo, .string hi, .bool la, .int .i64 nx, .slice ka P.length kc, .slice va V.length vc, .slice ca R.length cc]) ∧
    w'.ownsRow (w.heap.size + 2) 9 1 (.slice ka P.length kc) P.length (P.map Value.string) ∧ w'.ownsRow (w.heap.size + 2) 51 1 (.slice va V.length vc) V.length (V.map uv) ∧ w'.ownsRow (w.heap.size + 2) 3 1 (.slice ca R.length cc) R.length (R.map (Value.int .i64)) ∧ Below w.heap.size w w'
def seg {α : Type} (xs : List α) (f t : Nat) : List α := (xs.drop f).take (t - f)
theorem seg_len {α : Type} {xs : List α} {f t : Nat} (h : f ≤ t) (ht : t ≤ xs.length) : (seg xs f t).length = t - f := by
  unfold seg; rw [List.length_take, List.length_drop]; omega
theorem seg_at {α β : Type} {xs : List α} {f t : Nat} (g : α → β) (d : α) (h : f ≤ t) (ht : t ≤ xs.length) (j : Nat) (hj : j < t - f) : ((seg xs f t).map g)[j]? = some (g (xs.getD (f + j) d)) := by
  unfold seg
  rw [List.getElem?_map, List.getElem?_take, if_pos hj, List.getElem?_drop, List.getElem?_eq_getElem (by omega), List.getD_eq_getElem?_getD, List.getElem?_eq_getElem (by omega)]
  rfl
theorem ones_iE (z : Int) : ∀ u ∈ [Value.int .i64 z], u.oneCell' = true := by intro u hu; simp at hu; rw [hu]; rfl

set_option maxHeartbeats 4000000 in
set_option maxRecDepth 100000 in
theorem entL_of (lv nx : Int) (lo hi : ByteArray) (la : Bool) (ak av ac : Option Addr) (ck cv cc : Nat) (ks : List ByteArray) (vs : List Nat) (cs : List Int) (f t : Nat) (w : World) (hN : NdAt w ak av ac ks.length ck vs.length cv cs.length cc ks vs cs) (hlv : lv = 0) (hft : f ≤ t) (htk : t ≤ ks.length) (htv : t ≤ vs.length) (hn : ks.length ≤ 274877906943) :
    Calls Try.prog 112 #[.agg #[.int .i64 lv, .string lo, .string hi, .bool la, .int .i64 nx, .slice ak ks.length ck, .slice av vs.length cv, .slice ac cs.length cc], .int .i64 f, .int .i64 t] w fun e w' => EntGives w w' e lv nx lo hi la (seg ks f t) (seg vs f t) [] := by
  have hl0 : (lv == 0) = true := beq_iff_eq.2 hlv
  clear hlv
  obtain ⟨n1, n2, hB⟩ := boxes2 w #[.int .i64 lv, .string lo, .string hi, .bool la, .int .i64 nx, .slice ak ks.length ck, .slice av vs.length cv, .slice ac cs.length cc] #[.int .i64 0, .string ⟨#[]⟩, .string ⟨#[]⟩, .bool false, .int .i64 0, .slice none 0 0, .slice none 0 0, .slice none 0 0]
  obtain ⟨w1, hw1⟩ : ∃ w1, w1 = (w.alloc (.cells #[.int .i64 lv, .string lo, .string hi, .bool la, .int .i64 nx, .slice ak ks.length ck, .slice av vs.length cv, .slice ac cs.length cc] 26)).alloc (.cells #[.int .i64 0, .string ⟨#[]⟩, .string ⟨#[]⟩, .bool false, .int .i64 0, .slice none 0 0, .slice none 0 0, .slice none 0 0] 26) := ⟨_, rfl⟩
  rw [← hw1] at n1 n2 hB
  obtain ⟨w2, hw2⟩ : ∃ w2, w2 = ((w1.setCell ⟨w.heap.size, 5, none⟩ (.slice none 0 0)).setCell ⟨w.heap.size, 6, none⟩ (.slice none 0 0)).setCell ⟨w.heap.size, 7, none⟩ (.slice none 0 0) := ⟨_, rfl⟩
  obtain ⟨KX, hKX⟩ : ∃ K, K = (seg ks f t).map Value.string := ⟨_, rfl⟩
  obtain ⟨XX, hXX⟩ : ∃ K, K = (seg vs f t).map uv := ⟨_, rfl⟩
  have H2 : Hid (EntAt w w2 (.int .i64 lv) (.string lo) (.string hi) (.bool la) (.int .i64 nx) (.slice none 0 0) (.slice none 0 0) (.slice none 0 0) 0 0 0 KX XX []) := Lib.hid (by
    have b2 := ((n1.s5 (.slice none 0 0)).s6 (.slice none 0 0)).s7 (.slice none 0 0)
    have hne : w.heap.size + 1 ≠ w.heap.size := by omega
    have r2 := ((n2.far (p := ⟨w.heap.size, 5, none⟩) hne (.slice none 0 0)).far (p := ⟨w.heap.size, 6, none⟩) hne (.slice none 0 0)).far (p := ⟨w.heap.size, 7, none⟩) hne (.slice none 0 0)
    rw [← hw2] at b2 r2
    exact ⟨b2, r2, World.ownsRow_nil _ _ _ _, World.ownsRow_nil _ _ _ _, World.ownsRow_nil _ _ _ _, by rw [hw2]; exact ((hB.setCell (Nat.le_refl _) _).setCell (Nat.le_refl _) _).setCell (Nat.le_refl _) _⟩)
  have HKE : Hid (∀ j, j < t - f → KX[j]? = some (.string (nth ks (f + j)))) := Lib.hid (fun j hj => by rw [hKX]; exact seg_at Value.string ⟨#[]⟩ hft htk j hj)
  have HXE : Hid (∀ j, j < t - f → XX[j]? = some (uv (vs.getD (f + j) 0))) := Lib.hid (fun j hj => by rw [hXX]; exact seg_at uv 0 hft htv j hj)
  have HKN : Hid (KX.length = t - f ∧ XX.length = t - f) := Lib.hid ⟨by rw [hKX, List.length_map, seg_len hft htk], by rw [hXX, List.length_map, seg_len hft htv]⟩
  have HSL : Hid ((seg ks f t).length = t - f ∧ (seg vs f t).length = t - f) := Lib.hid ⟨seg_len hft htk, seg_len hft htv⟩
  have HND := Lib.hid hN
  have HKX := Lib.hid hKX
  have HXX := Lib.hid hXX
  have HW1 := Lib.hid hw1
  have HW2 := Lib.hid hw2
  obtain ⟨q0, q1, q2, q3, q4, q5, q6, q7⟩ := n1.cells
  have f5 := n1.frozen 5
  have x6 := (n1.s5 (.slice none 0 0)).cells.2.2.2.2.2.2.1
  have f6 := (n1.s5 (.slice none 0 0)).frozen 6
  have x7 := ((n1.s5 (.slice none 0 0)).s6 (.slice none 0 0)).cells.2.2.2.2.2.2.2
  have f7 := ((n1.s5 (.slice none 0 0)).s6 (.slice none 0 0)).frozen 7
  obtain ⟨i0, hi0, hz0, hz1, hz3⟩ := info_parts infoStr
  have HI := Lib.hid (show _ ∧ _ ∧ _ ∧ _ from ⟨hi0, hz0, hz1, hz3⟩)
  obtain ⟨i1, hi1, hy0, hy1, hy3⟩ := info_parts infoU64
  have HJ := Lib.hid (show _ ∧ _ ∧ _ ∧ _ from ⟨hi1, hy0, hy1, hy3⟩)
  clear hN n1 n2 hB hw1 hw2 hKX hXX hi0 hz0 hz1 hz3 hi1 hy0 hy1 hy3
  go_enter Try.func112, Try.ntmps112
  go_upto_region 1 with fail
  rw [← HW1.out]
  go_upto_region 8 with fail
  rw [← HW2.out]
  clear q0 q1 q2 q3 q4 q5 q6 q7 f5 x6 f6 x7 f7 HW1 HW2
  go_loopw [10] (fun s wr => ∃ (j : Nat) (ka va : Option Addr) (kc vc : Nat), s = .int .i64 ((f + j : Nat) : Int) ∧ f + j ≤ t ∧ Hid (EntAt w wr (.int .i64 lv) (.string lo) (.string hi) (.bool la) (.int .i64 nx) (.slice ka j kc) (.slice va j vc) (.slice none 0 0) j j 0 KX XX [])) (fun s _ => t - (intOf s).toNat)
  case atStart => exact ⟨0, none, none, 0, 0, rfl, hft, H2⟩
  case round =>
    obtain ⟨j, ka, va, kc, vc, rfl, hle, hA⟩ := hrel
    by_cases hlt : f + j < t
    · have hjt : j < t - f := by omega
      obtain ⟨gk, ok, hgk, hck⟩ := rd_at HND.out.k ⟨#[]⟩ (f + j) (by omega)
      obtain ⟨gx, ox, hgx, hcx⟩ := rd_at HND.out.v 0 (f + j) (by omega)
      subst hgk
      subst hgx
      have HCE : Hid (∀ V, Below w.heap.size w V → V.cell? ⟨gk, ok + (f + j), none⟩ = some (.string (nth ks (f + j))) ∧ V.cell? ⟨gx, ox + (f + j), none⟩ = some (uv (vs.getD (f + j) 0))) := Lib.hid (fun V h => by
        have h1 := hck (f + j) (by omega)
        have h2 := hcx (f + j) (by omega)
        exact ⟨(h.cell (p := ⟨gk, ok + (f + j), none⟩) (World.block_lt_of_cell? w _ h1)).trans h1, (h.cell (p := ⟨gx, ox + (f + j), none⟩) (World.block_lt_of_cell? w _ h2)).trans h2⟩)
      have HK1 := Lib.hid (HKE.out j hjt)
      have HX1 := Lib.hid (HXE.out j hjt)
      have HJK := Lib.hid (show j < KX.length ∧ j < XX.length by have := HKN.out; omega)
      unfold uv at HCE HX1
      rw [show vs.getD (f + j) 0 = nu vs (f + j) from rfl] at HCE HX1
      generalize nth ks (f + j) = s at HCE HK1
      generalize nu vs (f + j) = z at HCE HX1
      obtain ⟨i, hif⟩ : ∃ i, i = f + j := ⟨_, rfl⟩
      rw [← hif] at HCE
      have g1 : (i : Int) < ks.length := by omega
      have g2 : (i : Int) < vs.length := by omega
      have g3 : (i : Int) < t := by omega
      have g4 : (0 : Int) ≤ i := by omega
      rw [← hif]
      have HIF := Lib.hid hif
      have HLT := Lib.hid hlt
      clear hck hcx HKE HXE HND hjt
      have hz2 := hA.out.size
      have hp1 := (HCE.out wr hA.out.below).1
      have q5 := hA.out.box.cells.2.2.2.2.2.1
      have hjm : j ≤ 274877906943 := by omega
      clear hif hle hlt
      go_upto_region 10 with fail
      go_cut [] from 21 to 55 (fun wx => Hid (∃ ka2 kc2, EntAt w wx (.int .i64 lv) (.string lo) (.string hi) (.bool la) (.int .i64 nx) (.slice ka2 (j + 1) kc2) (.slice va j vc) (.slice none 0 0) (j + 1) j 0 KX XX []))
      case first =>
        have hB1 : Below wr.heap.size wr (wr.drew.alloc (.cells #[.string s] 9)) := (Below.refl wr.heap.size wr).drew.alloc (Nat.le_refl _) _
        have HA1 := Lib.hid (hA.out.keep hB1)
        have qa : (wr.alloc (.cells #[.string s] 9)).cell? ⟨w.heap.size, 5, none⟩ = some (.slice ka j kc) := HA1.out.box.cells.2.2.2.2.2.1
        clear hB1
        go_region_law (first | (refine step_append_lies _ rfl (.tmp 27) (.tmp 32) 22 rfl (w.heap.size + 2) 9 i0 (.string ⟨#[]⟩) 1 16 Try.underlying22 HI.out.1 HI.out.2.1 HI.out.2.2.1 HI.out.2.2.2 rfl (by decide) (.slice ka j kc) j (KX.take j) (by simp [Act.eval]) HA1.out.keys ⟨wr.heap.size, 0, none⟩ 1 1 [.string s] (by simp [Act.eval]) rfl (news_one _ _ _) (ones_s _) (by omega) (by unfold maxLen; omega) (by omega) (by simp; omega) _ rfl ?_; intro g cap w9 hown9 hgrow9 _ _; have n9 := HA1.out.boxK hgrow9; have e5 := n9.cells.2.2.2.2.2.1; have f5 := n9.frozen 5; have H9 := Lib.hid (HA1.out.addK (u := .slice (some ⟨g, 0, none⟩) (j + 1) cap) hgrow9 hown9 HJK.out.1 HK1.out); clear n9 hown9 hgrow9))
        all_goals
          go_wp2_with fail
          go_meet
          exact Lib.hid ⟨_, _, H9.out⟩
      case rest =>
        obtain ⟨ka2, kc2, hA2⟩ := hcut.out
        have HA2 := Lib.hid hA2
        clear hA2 hcut hp1 q5 hA hz2
        have q0 := HA2.out.box.cells.1
        go_upto_region 12 with fail
        have hp1 := (HCE.out wc HA2.out.below).2
        have q6 := HA2.out.box.cells.2.2.2.2.2.2.1
        have hz3 := HA2.out.size
        clear q0
        have hB1 : Below wc.heap.size wc (wc.drew.alloc (.cells #[.int .u64 z] 51)) := (Below.refl wc.heap.size wc).drew.alloc (Nat.le_refl _) _
        have HA1 := Lib.hid (HA2.out.keep hB1)
        have qa : (wc.alloc (.cells #[.int .u64 z] 51)).cell? ⟨w.heap.size, 6, none⟩ = some (.slice va j vc) := HA1.out.box.cells.2.2.2.2.2.2.1
        clear hB1
        go_region_law (first | (refine step_append_lies _ rfl (.tmp 39) (.tmp 44) 23 rfl (w.heap.size + 2) 51 i1 (.int .u64 0) 1 8 Try.underlying23 HJ.out.1 HJ.out.2.1 HJ.out.2.2.1 HJ.out.2.2.2 rfl (by decide) (.slice va j vc) j (XX.take j) (by simp [Act.eval]) HA1.out.vals ⟨wc.heap.size, 0, none⟩ 1 1 [.int .u64 z] (by simp [Act.eval]) rfl (news_one _ _ _) (ones_u _) (by omega) (by unfold maxLen; omega) (by omega) (by simp; omega) _ rfl ?_; intro g cap w9 hown9 hgrow9 _ _; have n9 := HA1.out.boxV hgrow9; have e6 := n9.cells.2.2.2.2.2.2.1; have f6 := n9.frozen 6; have H9 := Lib.hid (HA1.out.addV (u := .slice (some ⟨g, 0, none⟩) (j + 1) cap) hgrow9 hown9 HJK.out.2 HX1.out); clear n9 hown9 hgrow9))
        all_goals
          go_wp2
          go_roundw
          case rel => exact ⟨j + 1, _, _, _, _, by have := HIF.out; go_num, by have := HLT.out; omega, H9⟩
          case measure => simp [intOf]; have := HIF.out; have := HLT.out; omega
    · have hj : f + j = t := by omega
      have g3 : ¬ ((f + j : Nat) : Int) < t := by omega
      obtain ⟨q0, q1, q2, q3, q4, q5, q6, q7⟩ := hA.out.box.cells
      obtain ⟨t0, t1, t2, t3, t4, t5, t6, t7⟩ := hA.out.res.cells
      have f0 := hA.out.res.frozen 0
      have f1 := hA.out.res.frozen 1
      have f2 := hA.out.res.frozen 2
      have f3 := hA.out.res.frozen 3
      have f4 := hA.out.res.frozen 4
      have f5 := hA.out.res.frozen 5
      have f6 := hA.out.res.frozen 6
      have f7 := hA.out.res.frozen 7
      go_wp2
      refine bodyPost_ret (v := .agg #[.int .i64 lv, .string lo, .string hi, .bool la, .int .i64 nx, .slice ka j kc, .slice va j vc, .slice none 0 0]) (by simp [results, Try.results112, go_sem, *]) rfl ?_
      have hk := hA.out.keys
      have hv := hA.out.vals
      rw [List.take_of_length_le (by have := HKN.out; omega), HKX.out] at hk
      rw [List.take_of_length_le (by have := HKN.out; omega), HXX.out] at hv
      have hlk : (seg ks f t).length = j := by have := HSL.out; omega
      have hlx : (seg vs f t).length = j := by have := HSL.out; omega
      have h7 := wr5_below (w.heap.size + 1) w.heap.size (by omega) [(0, .int .i64 lv), (1, .string lo), (2, .string hi), (3, .bool la), (4, .int .i64 nx), (5, .slice ka j kc), (6, .slice va j vc), (7, .slice none 0 0)] w wr hA.out.below
      have h9 := own_wr5 hk hA.out.res (by decide) [(0, .int .i64 lv), (1, .string lo), (2, .string hi), (3, .bool la), (4, .int .i64 nx), (5, .slice ka j kc), (6, .slice va j vc), (7, .slice none 0 0)]
      have h8 := own_wr5 hv hA.out.res (by decide) [(0, .int .i64 lv), (1, .string lo), (2, .string hi), (3, .bool la), (4, .int .i64 nx), (5, .slice ka j kc), (6, .slice va j vc), (7, .slice none 0 0)]
      simp only [wr5] at h7 h8 h9
      exact ⟨ka, va, none, kc, vc, 0, by rw [hlk, hlx]; rfl, by rw [hlk]; exact h9, by rw [hlx]; exact h8, World.ownsRow_nil _ _ _ _, h7⟩

set_option maxHeartbeats 4000000 in
set_option maxRecDepth 100000 in
theorem entI_of (lv nx : Int) (lo hi : ByteArray) (la : Bool) (ak av ac : Option Addr) (ck cv cc : Nat) (ks : List ByteArray) (vs : List Nat) (cs : List Int) (f t : Nat) (w : World) (hN : NdAt w ak av ac ks.length ck vs.length cv cs.length cc ks vs cs) (hlv : lv ≠ 0) (hft : f ≤ t) (htk : t ≤ ks.length) (htv : t ≤ cs.length) (hn : ks.length ≤ 274877906943) :
    Calls Try.prog 112 #[.agg #[.int .i64 lv, .string lo, .string hi, .bool la, .int .i64 nx, .slice ak ks.length ck, .slice av vs.length cv, .slice ac cs.length cc], .int .i64 f, .int .i64 t] w fun e w' => EntGives w w' e lv nx lo hi la (seg ks f t) [] (seg cs f t) := by
  have hl0 : (lv == 0) = false := beq_eq_false_iff_ne.2 hlv
  clear hlv
  obtain ⟨n1, n2, hB⟩ := boxes2 w #[.int .i64 lv, .string lo, .string hi, .bool la, .int .i64 nx, .slice ak ks.length ck, .slice av vs.length cv, .slice ac cs.length cc] #[.int .i64 0, .string ⟨#[]⟩, .string ⟨#[]⟩, .bool false, .int .i64 0, .slice none 0 0, .slice none 0 0, .slice none 0 0]
  obtain ⟨w1, hw1⟩ : ∃ w1, w1 = (w.alloc (.cells #[.int .i64 lv, .string lo, .string hi, .bool la, .int .i64 nx, .slice ak ks.length ck, .slice av vs.length cv, .slice ac cs.length cc] 26)).alloc (.cells #[.int .i64 0, .string ⟨#[]⟩, .string ⟨#[]⟩, .bool false, .int .i64 0, .slice none 0 0, .slice none 0 0, .slice none 0 0] 26) := ⟨_, rfl⟩
  rw [← hw1] at n1 n2 hB
  obtain ⟨w2, hw2⟩ : ∃ w2, w2 = ((w1.setCell ⟨w.heap.size, 5, none⟩ (.slice none 0 0)).setCell ⟨w.heap.size, 6, none⟩ (.slice none 0 0)).setCell ⟨w.heap.size, 7, none⟩ (.slice none 0 0) := ⟨_, rfl⟩
  obtain ⟨KX, hKX⟩ : ∃ K, K = (seg ks f t).map Value.string := ⟨_, rfl⟩
  obtain ⟨XX, hXX⟩ : ∃ K, K = (seg cs f t).map (Value.int .i64) := ⟨_, rfl⟩
  have H2 : Hid (EntAt w w2 (.int .i64 lv) (.string lo) (.string hi) (.bool la) (.int .i64 nx) (.slice none 0 0) (.slice none 0 0) (.slice none 0 0) 0 0 0 KX [] XX) := Lib.hid (by
    have b2 := ((n1.s5 (.slice none 0 0)).s6 (.slice none 0 0)).s7 (.slice none 0 0)
    have hne : w.heap.size + 1 ≠ w.heap.size := by omega
    have r2 := ((n2.far (p := ⟨w.heap.size, 5, none⟩) hne (.slice none 0 0)).far (p := ⟨w.heap.size, 6, none⟩) hne (.slice none 0 0)).far (p := ⟨w.heap.size, 7, none⟩) hne (.slice none 0 0)
    rw [← hw2] at b2 r2
    exact ⟨b2, r2, World.ownsRow_nil _ _ _ _, World.ownsRow_nil _ _ _ _, World.ownsRow_nil _ _ _ _, by rw [hw2]; exact ((hB.setCell (Nat.le_refl _) _).setCell (Nat.le_refl _) _).setCell (Nat.le_refl _) _⟩)
  have HKE : Hid (∀ j, j < t - f → KX[j]? = some (.string (nth ks (f + j)))) := Lib.hid (fun j hj => by rw [hKX]; exact seg_at Value.string ⟨#[]⟩ hft htk j hj)
  have HXE : Hid (∀ j, j < t - f → XX[j]? = some ((Value.int .i64) (cs.getD (f + j) 0))) := Lib.hid (fun j hj => by rw [hXX]; exact seg_at (Value.int .i64) 0 hft htv j hj)
  have HKN : Hid (KX.length = t - f ∧ XX.length = t - f) := Lib.hid ⟨by rw [hKX, List.length_map, seg_len hft htk], by rw [hXX, List.length_map, seg_len hft htv]⟩
  have HSL : Hid ((seg ks f t).length = t - f ∧ (seg cs f t).length = t - f) := Lib.hid ⟨seg_len hft htk, seg_len hft htv⟩
  have HND := Lib.hid hN
  have HKX := Lib.hid hKX
  have HXX := Lib.hid hXX
  have HW1 := Lib.hid hw1
  have HW2 := Lib.hid hw2
  obtain ⟨q0, q1, q2, q3, q4, q5, q6, q7⟩ := n1.cells
  have f5 := n1.frozen 5
  have x6 := (n1.s5 (.slice none 0 0)).cells.2.2.2.2.2.2.1
  have f6 := (n1.s5 (.slice none 0 0)).frozen 6
  have x7 := ((n1.s5 (.slice none 0 0)).s6 (.slice none 0 0)).cells.2.2.2.2.2.2.2
  have f7 := ((n1.s5 (.slice none 0 0)).s6 (.slice none 0 0)).frozen 7
  obtain ⟨i0, hi0, hz0, hz1, hz3⟩ := info_parts infoStr
  have HI := Lib.hid (show _ ∧ _ ∧ _ ∧ _ from ⟨hi0, hz0, hz1, hz3⟩)
  obtain ⟨i1, hi1, hy0, hy1, hy3⟩ := info_parts infoInt
  have HJ := Lib.hid (show _ ∧ _ ∧ _ ∧ _ from ⟨hi1, hy0, hy1, hy3⟩)
  clear hN n1 n2 hB hw1 hw2 hKX hXX hi0 hz0 hz1 hz3 hi1 hy0 hy1 hy3
  go_enter Try.func112, Try.ntmps112
  go_upto_region 1 with fail
  rw [← HW1.out]
  go_upto_region 8 with fail
  rw [← HW2.out]
  clear q0 q1 q2 q3 q4 q5 q6 q7 f5 x6 f6 x7 f7 HW1 HW2
  go_loopw [10] (fun s wr => ∃ (j : Nat) (ka va : Option Addr) (kc vc : Nat), s = .int .i64 ((f + j : Nat) : Int) ∧ f + j ≤ t ∧ Hid (EntAt w wr (.int .i64 lv) (.string lo) (.string hi) (.bool la) (.int .i64 nx) (.slice ka j kc) (.slice none 0 0) (.slice va j vc) j 0 j KX [] XX)) (fun s _ => t - (intOf s).toNat)
  case atStart => exact ⟨0, none, none, 0, 0, rfl, hft, H2⟩
  case round =>
    obtain ⟨j, ka, va, kc, vc, rfl, hle, hA⟩ := hrel
    by_cases hlt : f + j < t
    · have hjt : j < t - f := by omega
      obtain ⟨gk, ok, hgk, hck⟩ := rd_at HND.out.k ⟨#[]⟩ (f + j) (by omega)
      obtain ⟨gx, ox, hgx, hcx⟩ := rd_at HND.out.c 0 (f + j) (by omega)
      subst hgk
      subst hgx
      have HCE : Hid (∀ V, Below w.heap.size w V → V.cell? ⟨gk, ok + (f + j), none⟩ = some (.string (nth ks (f + j))) ∧ V.cell? ⟨gx, ox + (f + j), none⟩ = some ((Value.int .i64) (cs.getD (f + j) 0))) := Lib.hid (fun V h => by
        have h1 := hck (f + j) (by omega)
        have h2 := hcx (f + j) (by omega)
        exact ⟨(h.cell (p := ⟨gk, ok + (f + j), none⟩) (World.block_lt_of_cell? w _ h1)).trans h1, (h.cell (p := ⟨gx, ox + (f + j), none⟩) (World.block_lt_of_cell? w _ h2)).trans h2⟩)
      have HK1 := Lib.hid (HKE.out j hjt)
      have HX1 := Lib.hid (HXE.out j hjt)
      have HJK := Lib.hid (show j < KX.length ∧ j < XX.length by have := HKN.out; omega)
      rw [show cs.getD (f + j) 0 = ni cs (f + j) from rfl] at HCE HX1
      generalize nth ks (f + j) = s at HCE HK1
      generalize ni cs (f + j) = z at HCE HX1
      obtain ⟨i, hif⟩ : ∃ i, i = f + j := ⟨_, rfl⟩
      rw [← hif] at HCE
      have g1 : (i : Int) < ks.length := by omega
      have g2 : (i : Int) < cs.length := by omega
      have g3 : (i : Int) < t := by omega
      have g4 : (0 : Int) ≤ i := by omega
      rw [← hif]
      have HIF := Lib.hid hif
      have HLT := Lib.hid hlt
      clear hck hcx HKE HXE HND hjt
      have hz2 := hA.out.size
      have hp1 := (HCE.out wr hA.out.below).1
      have q5 := hA.out.box.cells.2.2.2.2.2.1
      have hjm : j ≤ 274877906943 := by omega
      clear hif hle hlt
      go_upto_region 10 with fail
      go_cut [] from 21 to 55 (fun wx => Hid (∃ ka2 kc2, EntAt w wx (.int .i64 lv) (.string lo) (.string hi) (.bool la) (.int .i64 nx) (.slice ka2 (j + 1) kc2) (.slice none 0 0) (.slice va j vc) (j + 1) 0 j KX [] XX))
      case first =>
        have hB1 : Below wr.heap.size wr (wr.drew.alloc (.cells #[.string s] 9)) := (Below.refl wr.heap.size wr).drew.alloc (Nat.le_refl _) _
        have HA1 := Lib.hid (hA.out.keep hB1)
        have qa : (wr.alloc (.cells #[.string s] 9)).cell? ⟨w.heap.size, 5, none⟩ = some (.slice ka j kc) := HA1.out.box.cells.2.2.2.2.2.1
        clear hB1
        go_region_law (first | (refine step_append_lies _ rfl (.tmp 27) (.tmp 32) 22 rfl (w.heap.size + 2) 9 i0 (.string ⟨#[]⟩) 1 16 Try.underlying22 HI.out.1 HI.out.2.1 HI.out.2.2.1 HI.out.2.2.2 rfl (by decide) (.slice ka j kc) j (KX.take j) (by simp [Act.eval]) HA1.out.keys ⟨wr.heap.size, 0, none⟩ 1 1 [.string s] (by simp [Act.eval]) rfl (news_one _ _ _) (ones_s _) (by omega) (by unfold maxLen; omega) (by omega) (by simp; omega) _ rfl ?_; intro g cap w9 hown9 hgrow9 _ _; have n9 := HA1.out.boxK hgrow9; have e5 := n9.cells.2.2.2.2.2.1; have f5 := n9.frozen 5; have H9 := Lib.hid (HA1.out.addK (u := .slice (some ⟨g, 0, none⟩) (j + 1) cap) hgrow9 hown9 HJK.out.1 HK1.out); clear n9 hown9 hgrow9))
        all_goals
          go_wp2_with fail
          go_meet
          exact Lib.hid ⟨_, _, H9.out⟩
      case rest =>
        obtain ⟨ka2, kc2, hA2⟩ := hcut.out
        have HA2 := Lib.hid hA2
        clear hA2 hcut hp1 q5 hA hz2
        have q0 := HA2.out.box.cells.1
        go_upto_region 13 with fail
        have hp1 := (HCE.out wc HA2.out.below).2
        have q6 := HA2.out.box.cells.2.2.2.2.2.2.2
        have hz3 := HA2.out.size
        clear q0
        have hB1 : Below wc.heap.size wc (wc.drew.alloc (.cells #[.int .i64 z] 3)) := (Below.refl wc.heap.size wc).drew.alloc (Nat.le_refl _) _
        have HA1 := Lib.hid (HA2.out.keep hB1)
        have qa : (wc.alloc (.cells #[.int .i64 z] 3)).cell? ⟨w.heap.size, 7, none⟩ = some (.slice va j vc) := HA1.out.box.cells.2.2.2.2.2.2.2
        clear hB1
        go_region_law (first | (refine step_append_lies _ rfl (.tmp 48) (.tmp 53) 24 rfl (w.heap.size + 2) 3 i1 (.int .i64 0) 1 8 Try.underlying24 HJ.out.1 HJ.out.2.1 HJ.out.2.2.1 HJ.out.2.2.2 rfl (by decide) (.slice va j vc) j (XX.take j) (by simp [Act.eval]) HA1.out.kids ⟨wc.heap.size, 0, none⟩ 1 1 [.int .i64 z] (by simp [Act.eval]) rfl (news_one _ _ _) (ones_iE _) (by omega) (by unfold maxLen; omega) (by omega) (by simp; omega) _ rfl ?_; intro g cap w9 hown9 hgrow9 _ _; have n9 := HA1.out.boxC hgrow9; have e6 := n9.cells.2.2.2.2.2.2.2; have f6 := n9.frozen 7; have H9 := Lib.hid (HA1.out.addC (u := .slice (some ⟨g, 0, none⟩) (j + 1) cap) hgrow9 hown9 HJK.out.2 HX1.out); clear n9 hown9 hgrow9))
        all_goals
          go_wp2
          go_roundw
          case rel => exact ⟨j + 1, _, _, _, _, by have := HIF.out; go_num, by have := HLT.out; omega, H9⟩
          case measure => simp [intOf]; have := HIF.out; have := HLT.out; omega
    · have hj : f + j = t := by omega
      have g3 : ¬ ((f + j : Nat) : Int) < t := by omega
      obtain ⟨q0, q1, q2, q3, q4, q5, q6, q7⟩ := hA.out.box.cells
      obtain ⟨t0, t1, t2, t3, t4, t5, t6, t7⟩ := hA.out.res.cells
      have f0 := hA.out.res.frozen 0
      have f1 := hA.out.res.frozen 1
      have f2 := hA.out.res.frozen 2
      have f3 := hA.out.res.frozen 3
      have f4 := hA.out.res.frozen 4
      have f5 := hA.out.res.frozen 5
      have f6 := hA.out.res.frozen 6
      have f7 := hA.out.res.frozen 7
      go_wp2
      refine bodyPost_ret (v := .agg #[.int .i64 lv, .string lo, .string hi, .bool la, .int .i64 nx, .slice ka j kc, .slice none 0 0, .slice va j vc]) (by simp [results, Try.results112, go_sem, *]) rfl ?_
      have hk := hA.out.keys
      have hv := hA.out.kids
      rw [List.take_of_length_le (by have := HKN.out; omega), HKX.out] at hk
      rw [List.take_of_length_le (by have := HKN.out; omega), HXX.out] at hv
      have hlk : (seg ks f t).length = j := by have := HSL.out; omega
      have hlx : (seg cs f t).length = j := by have := HSL.out; omega
      have h7 := wr5_below (w.heap.size + 1) w.heap.size (by omega) [(0, .int .i64 lv), (1, .string lo), (2, .string hi), (3, .bool la), (4, .int .i64 nx), (5, .slice ka j kc), (6, .slice none 0 0), (7, .slice va j vc)] w wr hA.out.below
      have h9 := own_wr5 hk hA.out.res (by decide) [(0, .int .i64 lv), (1, .string lo), (2, .string hi), (3, .bool la), (4, .int .i64 nx), (5, .slice ka j kc), (6, .slice none 0 0), (7, .slice va j vc)]
      have h8 := own_wr5 hv hA.out.res (by decide) [(0, .int .i64 lv), (1, .string lo), (2, .string hi), (3, .bool la), (4, .int .i64 nx), (5, .slice ka j kc), (6, .slice none 0 0), (7, .slice va j vc)]
      simp only [wr5] at h7 h8 h9
      exact ⟨ka, none, va, kc, 0, vc, by rw [hlk, hlx]; rfl, by rw [hlk]; exact h9, World.ownsRow_nil _ _ _ _, by rw [hlx]; exact h8, h7⟩
end Go.Proofs.Ytmkglaghnjnooaa

namespace Go.Proofs.Ytmkglaghnjnooaa
open Go.RowKit

/-- Three rows of the call's own. -/
structure OwnN (W : World) (B : Nat) (ak av ac : Option Addr) (ck cv cc : Nat) (ks : List ByteArray) (vs : List Nat) (cs : List Int) : Prop where
  k : W.ownsRow B 9 1 (.slice ak ks.length ck) ks.length (ks.map Value.string)
  v : W.ownsRow B 51 1 (.slice av vs.length cv) vs.length (vs.map uv)
  c : W.ownsRow B 3 1 (.slice ac cs.length cc) cs.length (cs.map (Value.int .i64))
theorem own_farE {w : World} {B : Nat} {t : TypeId} {ao : Option Addr} {n c m : Nat} {xs : List Value} (h : w.ownsRow B t 1 (.slice ao n c) m xs) : Far B ao := by
  intro p hp
  rcases h.2 with ⟨e, _⟩ | ⟨g, cap, cur, e, hb, _⟩
  · injection e with e _ _
    rw [hp] at e; cases e
  · injection e with e _ _
    rw [hp] at e
    injection e with e
    rw [e]; exact hb
section
variable {W W' : World} {B : Nat} {ak av ac : Option Addr} {ck cv cc : Nat} {ks : List ByteArray} {vs : List Nat} {cs : List Int}
theorem OwnN.keep (h : OwnN W B ak av ac ck cv cc ks vs cs) (hb : Below W.heap.size W W') : OwnN W' B ak av ac ck cv cc ks vs cs := ⟨own_stays h.k hb, own_stays h.v hb, own_stays h.c hb⟩
theorem OwnN.base {D : Nat} (h : OwnN W B ak av ac ck cv cc ks vs cs) (hd : D ≤ B) : OwnN W D ak av ac ck cv cc ks vs cs := ⟨own_base h.k hd, own_base h.v hd, own_base h.c hd⟩
theorem OwnN.nd (h : OwnN W B ak av ac ck cv cc ks vs cs) : NdAt W ak av ac ks.length ck vs.length cv cs.length cc ks vs cs := ⟨rd_of_owns h.k, rd_of_owns h.v, rd_of_owns h.c⟩
theorem OwnN.drew (h : OwnN W B ak av ac ck cv cc ks vs cs) : OwnN W.drew B ak av ac ck cv cc ks vs cs := h.keep ((Below.refl _ _).drew)
theorem OwnN.set {g : Nat} {ds : Array Value} (h : OwnN W B ak av ac ck cv cc ks vs cs) (hg : NB W g ds) (i : Nat) (u : Value) : OwnN (W.setCell ⟨g, i, none⟩ u) B ak av ac ck cv cc ks vs cs := by
  have hs := grown_set W g i u
  have hn := nb_inT hg
  exact ⟨own_keeps h.k hs hn (by decide), own_keeps h.v hs hn (by decide), own_keeps h.c hs hn (by decide)⟩
theorem OwnN.wr {g : Nat} {ds : Array Value} (h : OwnN W B ak av ac ck cv cc ks vs cs) (hg : NB W g ds) (l : List (Nat × Value)) : OwnN (wr5 W g l) B ak av ac ck cv cc ks vs cs :=
  ⟨own_wr5 h.k hg (by decide) l, own_wr5 h.v hg (by decide) l, own_wr5 h.c hg (by decide) l⟩
end
theorem ent_of (lv nx : Int) (lo hi : ByteArray) (la : Bool) (ak av ac : Option Addr) (ck cv cc : Nat) (ks : List ByteArray) (vs : List Nat) (cs : List Int) (f t : Nat) (w : World) (hN : NdAt w ak av ac ks.length ck vs.length cv cs.length cc ks vs cs) (hlv : (lv = 0 ∧ vs.length = ks.length ∧ cs = []) ∨ (lv ≠ 0 ∧ vs = [] ∧ cs.length = ks.length)) (hft : f ≤ t) (htk : t ≤ ks.length) (hn : ks.length ≤ 274877906943) :
    Calls Try.prog 112 #[.agg #[.int .i64 lv, .string lo, .string hi, .bool la, .int .i64 nx, .slice ak ks.length ck, .slice av vs.length cv, .slice ac cs.length cc], .int .i64 f, .int .i64 t] w fun e w' => EntGives w w' e lv nx lo hi la (seg ks f t) (seg vs f t) (seg cs f t) := by
  rcases hlv with ⟨h1, h2, h3⟩ | ⟨h1, h2, h3⟩
  · have e : seg cs f t = [] := by rw [h3]; unfold seg; simp
    rw [e]
    exact entL_of lv nx lo hi la ak av ac ck cv cc ks vs cs f t w hN h1 hft htk (by omega) hn
  · have e : seg vs f t = [] := by rw [h2]; unfold seg; simp
    rw [e]
    exact entI_of lv nx lo hi la ak av ac ck cv cc ks vs cs f t w hN h1 hft htk (by omega) hn
/-- Two nodes are told; their rows are not below the call's world. -/
def PartG (w w' : World) (e : Ending) (n m : Nod) : Prop :=
  ∃ (ak1 av1 ac1 ak2 av2 ac2 : Option Addr) (ck1 cv1 cc1 ck2 cv2 cc2 : Nat), e = .returned (.tuple #[.agg #[.int .i64 n.lv, .string n.lo, .string n.hi, .bool n.la, .int .i64 n.nx, .slice ak1 n.ks.length ck1, .slice av1 n.vs.length cv1, .slice ac1 n.cs.length cc1], .agg #[.int .i64 m.lv, .string m.lo, .string m.hi, .bool m.la, .int .i64 m.nx, .slice ak2 m.ks.length ck2, .slice av2 m.vs.length cv2, .slice ac2 m.cs.length cc2]]) ∧ OwnN w' w.heap.size ak1 av1 ac1 ck1 cv1 cc1 n.ks n.vs n.cs ∧ OwnN w' w.heap.size ak2 av2 ac2 ck2 cv2 cc2 m.ks m.vs m.cs ∧ Below w.heap.size w w'
theorem OwnN.lr {w W : World} {cN : Array Value} {B : Nat} {ak av ac : Option Addr} {ck cv cc : Nat} {ks : List ByteArray} {vs : List Nat} {cs : List Int} {l0 l1 l2 l3 l4 l5 l6 l7 r0 r1 r2 r3 r4 r5 r6 r7 : Value} {cL cR : Array Value} (h : OwnN W B ak av ac ck cv cc ks vs cs) (hp : PartsAt w W cN cL cR) : OwnN ((((((((((((((((W.setCell ⟨w.heap.size + 1, 0, none⟩ l0).setCell ⟨w.heap.size + 1, 1, none⟩ l1).setCell ⟨w.heap.size + 1, 2, none⟩ l2).setCell ⟨w.heap.size + 1, 3, none⟩ l3).setCell ⟨w.heap.size + 1, 4, none⟩ l4).setCell ⟨w.heap.size + 1, 5, none⟩ l5).setCell ⟨w.heap.size + 1, 6, none⟩ l6).setCell ⟨w.heap.size + 1, 7, none⟩ l7).setCell ⟨w.heap.size + 2, 0, none⟩ r0).setCell ⟨w.heap.size + 2, 1, none⟩ r1).setCell ⟨w.heap.size + 2, 2, none⟩ r2).setCell ⟨w.heap.size + 2, 3, none⟩ r3).setCell ⟨w.heap.size + 2, 4, none⟩ r4).setCell ⟨w.heap.size + 2, 5, none⟩ r5).setCell ⟨w.heap.size + 2, 6, none⟩ r6).setCell ⟨w.heap.size + 2, 7, none⟩ r7).drew B ak av ac ck cv cc ks vs cs := by
  have h1 := h.wr hp.l [(0, l0), (1, l1), (2, l2), (3, l3), (4, l4), (5, l5), (6, l6), (7, l7)]
  have h2 : NB (wr5 W (w.heap.size + 1) [(0, l0), (1, l1), (2, l2), (3, l3), (4, l4), (5, l5), (6, l6), (7, l7)]) (w.heap.size + 2) cR := (wr5_far _ _ (by omega) _ _).trans hp.r
  have h3 := (h1.wr h2 [(0, r0), (1, r1), (2, r2), (3, r3), (4, r4), (5, r5), (6, r6), (7, r7)]).drew
  simp only [wr5] at h3
  exact h3
theorem OwnN.rl {w W : World} {cN : Array Value} {B : Nat} {ak av ac : Option Addr} {ck cv cc : Nat} {ks : List ByteArray} {vs : List Nat} {cs : List Int} {l0 l1 l2 l3 l4 l5 l6 l7 r0 r1 r2 r3 r4 r5 r6 r7 : Value} {cL cR : Array Value} (h : OwnN W B ak av ac ck cv cc ks vs cs) (hp : PartsAt w W cN cL cR) : OwnN ((((((((((((((((W.setCell ⟨w.heap.size + 2, 0, none⟩ r0).setCell ⟨w.heap.size + 2, 1, none⟩ r1).setCell ⟨w.heap.size + 2, 2, none⟩ r2).setCell ⟨w.heap.size + 2, 3, none⟩ r3).setCell ⟨w.heap.size + 2, 4, none⟩ r4).setCell ⟨w.heap.size + 2, 5, none⟩ r5).setCell ⟨w.heap.size + 2, 6, none⟩ r6).setCell ⟨w.heap.size + 2, 7, none⟩ r7).setCell ⟨w.heap.size + 1, 0, none⟩ l0).setCell ⟨w.heap.size + 1, 1, none⟩ l1).setCell ⟨w.heap.size + 1, 2, none⟩ l2).setCell ⟨w.heap.size + 1, 3, none⟩ l3).setCell ⟨w.heap.size + 1, 4, none⟩ l4).setCell ⟨w.heap.size + 1, 5, none⟩ l5).setCell ⟨w.heap.size + 1, 6, none⟩ l6).setCell ⟨w.heap.size + 1, 7, none⟩ l7).drew B ak av ac ck cv cc ks vs cs := by
  have h1 := h.wr hp.r [(0, r0), (1, r1), (2, r2), (3, r3), (4, r4), (5, r5), (6, r6), (7, r7)]
  have h2 : NB (wr5 W (w.heap.size + 2) [(0, r0), (1, r1), (2, r2), (3, r3), (4, r4), (5, r5), (6, r6), (7, r7)]) (w.heap.size + 1) cL := (wr5_far _ _ (by omega) _ _).trans hp.l
  have h3 := (h1.wr h2 [(0, l0), (1, l1), (2, l2), (3, l3), (4, l4), (5, l5), (6, l6), (7, l7)]).drew
  simp only [wr5] at h3
  exact h3
theorem PartsAt.other {w wx : World} {cN cL cR : Array Value} (h : PartsAt w wx cN cL cR) (g i : Nat) (hg : w.heap.size + 3 ≤ g) (u : Value) : PartsAt w (wx.setCell ⟨g, i, none⟩ u) cN cL cR :=
  ⟨h.n.far (p := ⟨g, i, none⟩) (by show w.heap.size ≠ g; omega) u, h.l.far (p := ⟨g, i, none⟩) (by show w.heap.size + 1 ≠ g; omega) u, h.r.far (p := ⟨g, i, none⟩) (by show w.heap.size + 2 ≠ g; omega) u, h.below.setCell (by show w.heap.size ≤ g; omega) u⟩

set_option maxHeartbeats 8000000 in
set_option maxRecDepth 100000 in
theorem part_of (lv nx : Int) (lo hi : ByteArray) (la : Bool) (ak av ac : Option Addr) (ck cv cc : Nat) (ks : List ByteArray) (vs : List Nat) (cs : List Int) (cell : Int) (w : World) (hN : NdAt w ak av ac ks.length ck vs.length cv cs.length cc ks vs cs) (hf : ∀ x ∈ ks, x.size ≤ 140737488355328) (hn : ks.length ≤ 274877906943) (h2 : 2 ≤ ks.length) (hl : 0 ≤ lv)
    (hlv : (lv = 0 ∧ vs.length = ks.length ∧ cs = []) ∨ (lv ≠ 0 ∧ vs = [] ∧ cs.length = ks.length)) (hr : lss (nth ks (hlf ks.length - 1)).data.toList (nth ks (hlf ks.length)).data.toList = true) :
    Calls Try.prog 59 #[.agg #[.int .i64 lv, .string lo, .string hi, .bool la, .int .i64 nx, .slice ak ks.length ck, .slice av vs.length cv, .slice ac cs.length cc], .int .i64 cell] w fun e w' => PartG w w' e (Nod.left ⟨lv, nx, lo, hi, la, ks, vs, cs⟩ cell) (Nod.right ⟨lv, nx, lo, hi, la, ks, vs, cs⟩) := by
  obtain ⟨w1, hw1, n1, n2, n3, hB, hsz⟩ := boxes3 w #[.int .i64 lv, .string lo, .string hi, .bool la, .int .i64 nx, .slice ak ks.length ck, .slice av vs.length cv, .slice ac cs.length cc] #[.int .i64 0, .string ⟨#[]⟩, .string ⟨#[]⟩, .bool false, .int .i64 0, .slice none 0 0, .slice none 0 0, .slice none 0 0] #[.int .i64 0, .string ⟨#[]⟩, .string ⟨#[]⟩, .bool false, .int .i64 0, .slice none 0 0, .slice none 0 0, .slice none 0 0]
  have HW1 := Lib.hid hw1
  have HSZ := Lib.hid hsz
  have HP1 : Hid (PartsAt w w1 #[.int .i64 lv, .string lo, .string hi, .bool la, .int .i64 nx, .slice ak ks.length ck, .slice av vs.length cv, .slice ac cs.length cc] #[.int .i64 0, .string ⟨#[]⟩, .string ⟨#[]⟩, .bool false, .int .i64 0, .slice none 0 0, .slice none 0 0, .slice none 0 0] #[.int .i64 0, .string ⟨#[]⟩, .string ⟨#[]⟩, .bool false, .int .i64 0, .slice none 0 0, .slice none 0 0, .slice none 0 0]) := Lib.hid ⟨n1, n2, n3, hB⟩
  have HND := Lib.hid hN
  obtain ⟨h, hh⟩ : ∃ h, h = hlf ks.length := ⟨_, rfl⟩
  have hp : (ks.length : Int) - (ks.length : Int).tdiv 2 = (h : Int) := by rw [hh]; exact hlf_int _
  have hp2 : (ks.length : Int) - (ks.length : Int) / 2 = (h : Int) := by rw [hh]; exact hlf_div _
  have hle : h ≤ ks.length := by rw [hh]; exact hlf_le _
  have hpos : 0 < h := by rw [hh]; unfold hlf; omega
  have hlt : h < ks.length := by rw [hh]; unfold hlf; omega
  rw [← hh] at hr
  have HE1 := Lib.hid (fun W (hb : Below w.heap.size w W) => ent_of lv nx lo hi la ak av ac ck cv cc ks vs cs 0 h W (hN.keep hb) hlv (Nat.zero_le _) hle hn)
  have HE2 := Lib.hid (fun W (hb : Below w.heap.size w W) => ent_of lv nx lo hi la ak av ac ck cv cc ks vs cs h ks.length W (hN.keep hb) hlv hle (Nat.le_refl _) hn)
  rw [show ((0 : Nat) : Int) = 0 from rfl] at HE1
  have HSG : Hid (seg ks 0 h = ks.take h ∧ seg vs 0 h = vs.take (hlf vs.length) ∧ seg cs 0 h = cs.take (hlf cs.length) ∧ seg ks h ks.length = ks.drop h ∧ seg vs h ks.length = vs.drop (hlf vs.length) ∧ seg cs h ks.length = cs.drop (hlf cs.length)) := Lib.hid (by
    have z : ∀ {α : Type} (xs : List α), xs.length = ks.length ∨ xs = [] → seg xs 0 h = xs.take (hlf xs.length) ∧ seg xs h ks.length = xs.drop (hlf xs.length) := by
      intro α xs hx
      rcases hx with hx | hx
      · rw [hx, ← hh]
        refine ⟨by unfold seg; rw [List.drop_zero, Nat.sub_zero], ?_⟩
        unfold seg
        rw [List.take_of_length_le (by rw [List.length_drop]; omega)]
      · subst hx
        exact ⟨by unfold seg; simp, by unfold seg; simp⟩
    have a := z ks (Or.inl rfl)
    rw [← hh] at a
    have b := z vs (by rcases hlv with g | g; exact Or.inl g.2.1; exact Or.inr g.2.1)
    have c := z cs (by rcases hlv with g | g; exact Or.inr g.2.2; exact Or.inl g.2.2)
    exact ⟨a.1, b.1, c.1, a.2, b.2, c.2⟩)
  rw [HSG.out.1, HSG.out.2.1, HSG.out.2.2.1] at HE1
  rw [HSG.out.2.2.2.1, HSG.out.2.2.2.2.1, HSG.out.2.2.2.2.2] at HE2
  obtain ⟨sa, hsa⟩ : ∃ s, s = nth ks (h - 1) := ⟨_, rfl⟩
  obtain ⟨sb, hsb⟩ : ∃ s, s = nth ks h := ⟨_, rfl⟩
  obtain ⟨bd, hbd⟩ : ∃ s, s = brdL lv sa sb := ⟨_, rfl⟩
  obtain ⟨K1, hK1⟩ : ∃ x, x = ks.take h := ⟨_, rfl⟩
  obtain ⟨K2, hK2⟩ : ∃ x, x = ks.drop h := ⟨_, rfl⟩
  obtain ⟨V1, hV1⟩ : ∃ x, x = vs.take (hlf vs.length) := ⟨_, rfl⟩
  obtain ⟨V2, hV2⟩ : ∃ x, x = vs.drop (hlf vs.length) := ⟨_, rfl⟩
  obtain ⟨R1, hR1⟩ : ∃ x, x = cs.take (hlf cs.length) := ⟨_, rfl⟩
  obtain ⟨R2, hR2⟩ : ∃ x, x = cs.drop (hlf cs.length) := ⟨_, rfl⟩
  have HLE : Hid (Nod.left ⟨lv, nx, lo, hi, la, ks, vs, cs⟩ cell = ⟨lv, cell, lo, bd, false, K1, V1, R1⟩) := Lib.hid (by subst hbd hsa hsb hK1 hV1 hR1 hh; rfl)
  have HRE : Hid (Nod.right ⟨lv, nx, lo, hi, la, ks, vs, cs⟩ = ⟨lv, nx, bd, hi, la, K2, V2, R2⟩) := Lib.hid (by subst hbd hsa hsb hK2 hV2 hR2 hh; rfl)
  have HK1 : Hid (K1.length = h ∧ nth K1 (h - 1) = sa) := Lib.hid (by
    subst hK1 hsa
    refine ⟨by rw [List.length_take]; omega, ?_⟩
    unfold nth
    rw [List.getD_eq_getElem?_getD, List.getD_eq_getElem?_getD, List.getElem?_take, if_pos (by omega)])
  have HK2 : Hid (0 < K2.length ∧ nth K2 0 = sb) := Lib.hid (by
    subst hK2 hsb
    refine ⟨by rw [List.length_drop]; omega, ?_⟩
    unfold nth
    rw [List.getD_eq_getElem?_getD, List.getD_eq_getElem?_getD, List.getElem?_drop, Nat.add_zero])
  have HLK : Hid (K1.length ≤ 274877906943 ∧ K2.length ≤ 274877906943) := Lib.hid (by subst hK1 hK2; rw [List.length_take, List.length_drop]; omega)
  have HRP := Lib.hid (fun W => rparting_yes sa sb W (by rw [hsa, nth_eq (by omega)]; exact hf _ (List.getElem_mem _)) (by rw [hsb, nth_eq hlt]; exact hf _ (List.getElem_mem _)) (by rw [hsa, hsb]; exact hr))
  have HBD : Hid ((lv = 0 → bd = sb.extract 0 (cpl sa.data.toList sb.data.toList + 1)) ∧ (lv ≠ 0 → bd = sb)) := Lib.hid (by
    subst hbd
    refine ⟨fun g => ?_, fun g => ?_⟩
    · unfold brdL brd; rw [if_neg (by omega)]
    · unfold brdL; rw [if_pos (by omega)])
  rw [← hK1, ← hV1, ← hR1] at HE1
  rw [← hK2, ← hV2, ← hR2] at HE2
  obtain ⟨q0, q1, q2, q3, q4, q5, q6, q7⟩ := n1.cells
  clear hN hf hr hlv hh hsa hsb hbd hK1 hK2 hV1 hV2 hR1 hR2 n1 n2 n3 hB hw1 hsz HSG
  go_enter Try.func59, Try.ntmps59
  go_wp2_with fail
  rw [← HW1.out]
  refine (HE1.out _ HP1.out.below).mono ?_
  rintro e w4 ⟨ka1, va1, ca1, kc1, vc1, cc1, rfl, o1, o2, o3, hb4⟩
  obtain ⟨W4, hW4⟩ : ∃ W, W = w4.alloc (.cells #[.int .i64 lv, .string lo, .string hi, .bool la, .int .i64 nx, .slice ka1 K1.length kc1, .slice va1 V1.length vc1, .slice ca1 R1.length cc1] 26) := ⟨_, rfl⟩
  have hx4 := boxed_below w4 (.cells #[.int .i64 lv, .string lo, .string hi, .bool la, .int .i64 nx, .slice ka1 K1.length kc1, .slice va1 V1.length vc1, .slice ca1 R1.length cc1] 26)
  have HX4 : Hid (NB W4 w4.heap.size #[.int .i64 lv, .string lo, .string hi, .bool la, .int .i64 nx, .slice ka1 K1.length kc1, .slice va1 V1.length vc1, .slice ca1 R1.length cc1]) := Lib.hid (by rw [hW4]; exact NB.new _ _)
  rw [← hW4] at hx4
  have HP4 := Lib.hid ((HP1.out.keep hb4).keep hx4)
  have HO4 := Lib.hid (OwnN.keep (OwnN.base (OwnN.mk o1 o2 o3) (by have := HP1.out.size; omega) : OwnN w4 w.heap.size ka1 va1 ca1 kc1 vc1 cc1 K1 V1 R1) hx4)
  have HG4 : Hid (w.heap.size + 3 ≤ w4.heap.size) := Lib.hid (HP1.out.keep hb4).size
  have HW4 := Lib.hid hW4
  clear q0 q1 q2 q3 q4 q5 q6 q7 HE1 HW1 o1 o2 o3 hb4 hx4 hW4 HP1
  obtain ⟨q0, q1, q2, q3, q4, q5, q6, q7⟩ := HP4.out.n.cells
  go_upto_region 3 with fail
  rw [← HW4.out]
  clear HW4
  go_wp2_with fail
  refine (HE2.out _ HP4.out.below).mono ?_
  rintro e w5 ⟨ka2, va2, ca2, kc2, vc2, cc2, rfl, o1, o2, o3, hb5⟩
  obtain ⟨W5, hW5⟩ : ∃ W, W = w5.alloc (.cells #[.int .i64 lv, .string lo, .string hi, .bool la, .int .i64 nx, .slice ka2 K2.length kc2, .slice va2 V2.length vc2, .slice ca2 R2.length cc2] 26) := ⟨_, rfl⟩
  have hx5 := boxed_below w5 (.cells #[.int .i64 lv, .string lo, .string hi, .bool la, .int .i64 nx, .slice ka2 K2.length kc2, .slice va2 V2.length vc2, .slice ca2 R2.length cc2] 26)
  have HX5 : Hid (NB W5 w5.heap.size #[.int .i64 lv, .string lo, .string hi, .bool la, .int .i64 nx, .slice ka2 K2.length kc2, .slice va2 V2.length vc2, .slice ca2 R2.length cc2]) := Lib.hid (by rw [hW5]; exact NB.new _ _)
  rw [← hW5] at hx5
  have HP5 := Lib.hid ((HP4.out.keep hb5).keep hx5)
  have HO5 := Lib.hid (OwnN.keep (OwnN.base (OwnN.mk o1 o2 o3) (by have := HP4.out.size; omega) : OwnN w5 w.heap.size ka2 va2 ca2 kc2 vc2 cc2 K2 V2 R2) hx5)
  have HG5 : Hid (w.heap.size + 3 ≤ w5.heap.size) := Lib.hid (HP4.out.keep hb5).size
  have HX45 := Lib.hid ((HX4.out.below hb5).below hx5)
  have HO45 := Lib.hid ((HO4.out.keep hb5).keep hx5)
  have HNE : Hid (w4.heap.size < w5.heap.size) := Lib.hid (Nat.lt_of_lt_of_le (lt_of_block HX4.out) hb5.size)
  have HW5 := Lib.hid hW5
  clear q0 q1 q2 q3 q4 q5 q6 q7 HE2 o1 o2 o3 hb5 hx5 hW5 HX4 HO4 HP4
  go_upto_region 4 with fail
  rw [← HW5.out]
  clear HW5
  obtain ⟨gb, ob, hgb, heb⟩ := rd_at HO5.out.nd.k ⟨#[]⟩ 0 HK2.out.1
  have heb2 := heb 0 HK2.out.1
  rw [show K2.getD 0 ⟨#[]⟩ = sb from HK2.out.2, Nat.add_zero] at heb2
  subst hgb
  obtain ⟨ga, oa, hga, hea⟩ := rd_at HO45.out.nd.k ⟨#[]⟩ (h - 1) (by have := HK1.out; omega)
  have hea2 := hea (h - 1) (by have := HK1.out; omega)
  rw [show K1.getD (h - 1) ⟨#[]⟩ = sa from HK1.out.2] at hea2
  subst hga
  obtain ⟨k, hk⟩ : ∃ k, k = h - 1 := ⟨_, rfl⟩
  rw [← hk] at hea2
  have HKK : Hid (K1.length = k + 1) := Lib.hid (by have := HK1.out.1; omega)
  have hki : (K1.length : Int) - 1 = (k : Int) := by have := HKK.out; omega
  have hkw : IntKind.i64.wrap (k : Int) = (k : Int) := by have := HKK.out; have := HLK.out; rw [IntKind.wrap_i64]; omega
  have hkl : (k : Int) < K1.length := by have := HKK.out; omega
  have hkr : (0 : Int) < K2.length := by have := HK2.out.1; omega
  clear hea heb hk hp hp2
  obtain ⟨q0, q1, q2, q3, q4, q5, q6, q7⟩ := HP5.out.n.cells
  obtain ⟨p0, p1, p2, p3, p4, p5, p6, p7⟩ := HX5.out.cells
  by_cases hz : lv = 0
  case pos =>
    have hl0 : (lv == 0) = true := beq_iff_eq.2 hz
    have hbe := HBD.out.1 hz
    rw [← hbe] at HRP
    clear hz
    clear hbe
    have HCC : Hid (∀ V, Below W5.heap.size W5 V → (V.cell? ⟨w4.heap.size, 5, none⟩ = some (.slice (some ⟨ga, oa, none⟩) K1.length kc1) ∧ V.cell? ⟨w5.heap.size, 5, none⟩ = some (.slice (some ⟨gb, ob, none⟩) K2.length kc2) ∧ V.cell? ⟨ga, oa + k, none⟩ = some (.string sa) ∧ V.cell? ⟨gb, ob, none⟩ = some (.string sb)) ∧ Below W5.heap.size W5 V) := Lib.hid (fun V hb => ⟨⟨(HX45.out.below hb).cells.2.2.2.2.2.1, (HX5.out.below hb).cells.2.2.2.2.2.1, (hb.cell (p := ⟨ga, oa + k, none⟩) (World.block_lt_of_cell? W5 _ hea2)).trans hea2, (hb.cell (p := ⟨gb, ob, none⟩) (World.block_lt_of_cell? W5 _ heb2)).trans heb2⟩, hb⟩)
    go_upto_region 6 with fail
    clear hea2 heb2
    go_cut [9] (fun s9 wx => Hid (s9 = .string bd ∧ Below W5.heap.size W5 wx))
    case first =>
      rename_i J1 KX1 hJ1 hKX1
      have hS0 := HCC.out W5.drew (Below.refl _ _).drew
      go_region_held_law (fun V => (V.cell? ⟨w4.heap.size, 5, none⟩ = some (.slice (some ⟨ga, oa, none⟩) K1.length kc1) ∧ V.cell? ⟨w5.heap.size, 5, none⟩ = some (.slice (some ⟨gb, ob, none⟩) K2.length kc2) ∧ V.cell? ⟨ga, oa + k, none⟩ = some (.string sa) ∧ V.cell? ⟨gb, ob, none⟩ = some (.string sb)) ∧ Below W5.heap.size W5 V)
        (first | (with_reducible exact hS0) | (with_reducible exact hS8))
        (first
          | (go_at_call 113; (with_reducible refine (HRP.out _).mono ?_); rintro e w8 ⟨rfl, hd8⟩; have hB8 : Below W5.heap.size W5 w8 := Below.trans (And.right (by assumption)) (Drew.below hd8 _); have hS8 := HCC.out _ hB8; clear hd8))
      all_goals
        refine hKX1 _ _ (Met.intro (hJ1 _ _ ?_))
        (repeat apply Exists.intro)
        refine ⟨?_, rfl⟩
        (with_reducible exact Lib.hid ⟨rfl, hB8⟩)
    case rest =>
      obtain ⟨h9, hB9⟩ := hcut.out
      subst h9
      have HP6 := Lib.hid (HP5.out.keep hB9)
      have HX6 := Lib.hid (HX5.out.below hB9)
      have HX46 := Lib.hid (HX45.out.below hB9)
      have HO6 := Lib.hid (HO5.out.keep hB9)
      have HO46 := Lib.hid (HO45.out.keep hB9)
      clear hcut hB9 HCC HP5 HX5 HX45 HO5 HO45 q0 q1 q2 q3 q4 q5 q6 q7 p0 p1 p2 p3 p4 p5 p6 p7
      have hne : w4.heap.size ≠ w5.heap.size := Nat.ne_of_lt HNE.out
      have hne2 : w5.heap.size ≠ w4.heap.size := fun e => hne e.symm
      have s1 := HX6.out.s1 (.string bd)
      have s1b := HX46.out.far (p := ⟨w5.heap.size, 1, none⟩) hne (.string bd)
      have s2 := s1b.s2 (.string bd)
      have s2b := s1.far (p := ⟨w4.heap.size, 2, none⟩) hne2 (.string bd)
      have s3 := s2.s3 (.bool false)
      have s3b := s2b.far (p := ⟨w4.heap.size, 3, none⟩) hne2 (.bool false)
      have s4 := s3.s4 (.int .i64 cell)
      have s4b := s3b.far (p := ⟨w4.heap.size, 4, none⟩) hne2 (.int .i64 cell)
      have o5 := (((HO6.out.set HX6.out 1 (.string bd)).set s1b 2 (.string bd)).set s2 3 (.bool false)).set s3 4 (.int .i64 cell)
      have o45 := (((HO46.out.set HX6.out 1 (.string bd)).set s1b 2 (.string bd)).set s2 3 (.bool false)).set s3 4 (.int .i64 cell)
      have pt := (((HP6.out.other w5.heap.size 1 HG5.out (.string bd)).other w4.heap.size 2 HG4.out (.string bd)).other w4.heap.size 3 HG4.out (.bool false)).other w4.heap.size 4 HG4.out (.int .i64 cell)
      have HS4 := Lib.hid s4
      have HS4B := Lib.hid s4b
      have HO9 := Lib.hid o5
      have HO8 := Lib.hid o45
      have HPT := Lib.hid pt
      have fa := HX6.out.frozen 1
      have xa := HX6.out.cells.2.1
      have fb := HX46.out.frozen 2
      have fc := HX46.out.frozen 3
      have fd := HX46.out.frozen 4
      have xb := HX46.out.cells.2.2.1
      have xc := HX46.out.cells.2.2.2.1
      have xd := HX46.out.cells.2.2.2.2.1
      clear s1 s1b s2 s2b s3 s3b s4 s4b o5 o45 pt
      go_upto_region 11 with fail
      refine @nameWe (fun W => Code.wp _ _ _ _ W) _ ?_
      intro WT hWT
      rw [← hWT] at HS4 HS4B HO9 HO8 HPT
      clear hWT fa xa fb fc fd xb xc xd
      go_cut [] (fun wx => Hid (PartsAt w wx #[.int .i64 lv, .string lo, .string hi, .bool la, .int .i64 nx, .slice ak ks.length ck, .slice av vs.length cv, .slice ac cs.length cc] #[.int .i64 lv, .string lo, .string bd, .bool false, .int .i64 cell, .slice (some ⟨ga, oa, none⟩) K1.length kc1, .slice va1 V1.length vc1, .slice ca1 R1.length cc1] #[.int .i64 lv, .string bd, .string hi, .bool la, .int .i64 nx, .slice (some ⟨gb, ob, none⟩) K2.length kc2, .slice va2 V2.length vc2, .slice ca2 R2.length cc2] ∧ OwnN wx w.heap.size (some ⟨ga, oa, none⟩) va1 ca1 kc1 vc1 cc1 K1 V1 R1 ∧ OwnN wx w.heap.size (some ⟨gb, ob, none⟩) va2 ca2 kc2 vc2 cc2 K2 V2 R2))
      case first =>
        rename_i J1 KX1 hJ1 hKX1
        (try clear q0 q1 q2 q3 q4 q5 q6 q7)
        (try clear p0 p1 p2 p3 p4 p5 p6 p7)
        have n1 : w5.heap.size ≠ w.heap.size + 1 := by have := HG5.out; omega
        have n2 : w5.heap.size ≠ w.heap.size + 2 := by have := HG5.out; omega
        have n3 : w4.heap.size ≠ w.heap.size + 1 := by have := HG4.out; omega
        have n4 : w4.heap.size ≠ w.heap.size + 2 := by have := HG4.out; omega
        have m1 : w.heap.size + 1 ≠ w5.heap.size := fun e => n1 e.symm
        have m2 : w.heap.size + 2 ≠ w5.heap.size := fun e => n2 e.symm
        have m3 : w.heap.size + 1 ≠ w4.heap.size := fun e => n3 e.symm
        have m4 : w.heap.size + 2 ≠ w4.heap.size := fun e => n4 e.symm
        obtain ⟨p0, p1, p2, p3, p4, p5, p6, p7⟩ := HS4.out.cells
        obtain ⟨q0, q1, q2, q3, q4, q5, q6, q7⟩ := HS4B.out.cells
        obtain ⟨t0, t1, t2, t3, t4, t5, t6, t7⟩ := HPT.out.l.cells
        obtain ⟨u0, u1, u2, u3, u4, u5, u6, u7⟩ := HPT.out.r.cells
        have f0 := HPT.out.l.frozen 0
        have f1 := HPT.out.l.frozen 1
        have f2 := HPT.out.l.frozen 2
        have f3 := HPT.out.l.frozen 3
        have f4 := HPT.out.l.frozen 4
        have f5 := HPT.out.l.frozen 5
        have f6 := HPT.out.l.frozen 6
        have f7 := HPT.out.l.frozen 7
        have g0 := HPT.out.r.frozen 0
        have g1 := HPT.out.r.frozen 1
        have g2 := HPT.out.r.frozen 2
        have g3 := HPT.out.r.frozen 3
        have g4 := HPT.out.r.frozen 4
        have g5 := HPT.out.r.frozen 5
        have g6 := HPT.out.r.frozen 6
        have g7 := HPT.out.r.frozen 7
        go_region
        all_goals
          refine hKX1 _ _ (Met.intro (hJ1 _ _ ?_))
          (repeat apply Exists.intro)
          refine ⟨?_, rfl⟩
          (try rw [show w.heap.size + 1 + 1 = w.heap.size + 2 from rfl])
          first
            | (with_reducible exact Lib.hid ⟨PartsAt.drew (PartsAt.lr HPT.out), OwnN.lr HO8.out HPT.out, OwnN.lr HO9.out HPT.out⟩)
            | (with_reducible exact Lib.hid ⟨PartsAt.drew (PartsAt.rl HPT.out), OwnN.rl HO8.out HPT.out, OwnN.rl HO9.out HPT.out⟩)
      case rest =>
        obtain ⟨hM, hO1, hO2⟩ := hcut.out
        have MU := Lib.hid hM
        have OU1 := Lib.hid hO1
        have OU2 := Lib.hid hO2
        clear hcut hM hO1 hO2
        (try clear q0 q1 q2 q3 q4 q5 q6 q7)
        (try clear p0 p1 p2 p3 p4 p5 p6 p7)
        obtain ⟨t0, t1, t2, t3, t4, t5, t6, t7⟩ := MU.out.l.cells
        obtain ⟨u0, u1, u2, u3, u4, u5, u6, u7⟩ := MU.out.r.cells
        go_wp2
        refine bodyPost_ret (v := .tuple #[.agg #[.int .i64 lv, .string lo, .string bd, .bool false, .int .i64 cell, .slice (some ⟨ga, oa, none⟩) K1.length kc1, .slice va1 V1.length vc1, .slice ca1 R1.length cc1], .agg #[.int .i64 lv, .string bd, .string hi, .bool la, .int .i64 nx, .slice (some ⟨gb, ob, none⟩) K2.length kc2, .slice va2 V2.length vc2, .slice ca2 R2.length cc2]]) (by simp [results, Try.results59, go_sem, *]) rfl ?_
        rw [HLE.out, HRE.out]
        exact ⟨_, _, _, _, _, _, _, _, _, _, _, _, rfl, OU1.out, OU2.out, MU.out.below⟩
  case neg =>
    have hl0 : (lv == 0) = false := beq_eq_false_iff_ne.2 hz
    have hbs := HBD.out.2 hz
    rw [← hbs] at heb2
    clear hz hbs
    have hne : w4.heap.size ≠ w5.heap.size := Nat.ne_of_lt HNE.out
    have hne2 : w5.heap.size ≠ w4.heap.size := fun e => hne e.symm
    have s1 := HX5.out.s1 (.string bd)
    have s1b := HX45.out.far (p := ⟨w5.heap.size, 1, none⟩) hne (.string bd)
    have s2 := s1b.s2 (.string bd)
    have s2b := s1.far (p := ⟨w4.heap.size, 2, none⟩) hne2 (.string bd)
    have s3 := s2.s3 (.bool false)
    have s3b := s2b.far (p := ⟨w4.heap.size, 3, none⟩) hne2 (.bool false)
    have s4 := s3.s4 (.int .i64 cell)
    have s4b := s3b.far (p := ⟨w4.heap.size, 4, none⟩) hne2 (.int .i64 cell)
    have o5 := (((HO5.out.set HX5.out 1 (.string bd)).set s1b 2 (.string bd)).set s2 3 (.bool false)).set s3 4 (.int .i64 cell)
    have o45 := (((HO45.out.set HX5.out 1 (.string bd)).set s1b 2 (.string bd)).set s2 3 (.bool false)).set s3 4 (.int .i64 cell)
    have pt := (((HP5.out.other w5.heap.size 1 HG5.out (.string bd)).other w4.heap.size 2 HG4.out (.string bd)).other w4.heap.size 3 HG4.out (.bool false)).other w4.heap.size 4 HG4.out (.int .i64 cell)
    have HS4 := Lib.hid s4
    have HS4B := Lib.hid s4b
    have HO9 := Lib.hid o5
    have HO8 := Lib.hid o45
    have HPT := Lib.hid pt
    have fa := HX5.out.frozen 1
    have xa := HX5.out.cells.2.1
    have fb := HX45.out.frozen 2
    have fc := HX45.out.frozen 3
    have fd := HX45.out.frozen 4
    have xb := HX45.out.cells.2.2.1
    have xc := HX45.out.cells.2.2.2.1
    have xd := HX45.out.cells.2.2.2.2.1
    clear s1 s1b s2 s2b s3 s3b s4 s4b o5 o45 pt
    go_upto_region 11 with fail
    refine @nameWe (fun W => Code.wp _ _ _ _ W) _ ?_
    intro WT hWT
    rw [← hWT] at HS4 HS4B HO9 HO8 HPT
    clear hWT fa xa fb fc fd xb xc xd
    go_cut [] (fun wx => Hid (PartsAt w wx #[.int .i64 lv, .string lo, .string hi, .bool la, .int .i64 nx, .slice ak ks.length ck, .slice av vs.length cv, .slice ac cs.length cc] #[.int .i64 lv, .string lo, .string bd, .bool false, .int .i64 cell, .slice (some ⟨ga, oa, none⟩) K1.length kc1, .slice va1 V1.length vc1, .slice ca1 R1.length cc1] #[.int .i64 lv, .string bd, .string hi, .bool la, .int .i64 nx, .slice (some ⟨gb, ob, none⟩) K2.length kc2, .slice va2 V2.length vc2, .slice ca2 R2.length cc2] ∧ OwnN wx w.heap.size (some ⟨ga, oa, none⟩) va1 ca1 kc1 vc1 cc1 K1 V1 R1 ∧ OwnN wx w.heap.size (some ⟨gb, ob, none⟩) va2 ca2 kc2 vc2 cc2 K2 V2 R2))
    case first =>
      rename_i J1 KX1 hJ1 hKX1
      (try clear q0 q1 q2 q3 q4 q5 q6 q7)
      (try clear p0 p1 p2 p3 p4 p5 p6 p7)
      have n1 : w5.heap.size ≠ w.heap.size + 1 := by have := HG5.out; omega
      have n2 : w5.heap.size ≠ w.heap.size + 2 := by have := HG5.out; omega
      have n3 : w4.heap.size ≠ w.heap.size + 1 := by have := HG4.out; omega
      have n4 : w4.heap.size ≠ w.heap.size + 2 := by have := HG4.out; omega
      have m1 : w.heap.size + 1 ≠ w5.heap.size := fun e => n1 e.symm
      have m2 : w.heap.size + 2 ≠ w5.heap.size := fun e => n2 e.symm
      have m3 : w.heap.size + 1 ≠ w4.heap.size := fun e => n3 e.symm
      have m4 : w.heap.size + 2 ≠ w4.heap.size := fun e => n4 e.symm
      obtain ⟨p0, p1, p2, p3, p4, p5, p6, p7⟩ := HS4.out.cells
      obtain ⟨q0, q1, q2, q3, q4, q5, q6, q7⟩ := HS4B.out.cells
      obtain ⟨t0, t1, t2, t3, t4, t5, t6, t7⟩ := HPT.out.l.cells
      obtain ⟨u0, u1, u2, u3, u4, u5, u6, u7⟩ := HPT.out.r.cells
      have f0 := HPT.out.l.frozen 0
      have f1 := HPT.out.l.frozen 1
      have f2 := HPT.out.l.frozen 2
      have f3 := HPT.out.l.frozen 3
      have f4 := HPT.out.l.frozen 4
      have f5 := HPT.out.l.frozen 5
      have f6 := HPT.out.l.frozen 6
      have f7 := HPT.out.l.frozen 7
      have g0 := HPT.out.r.frozen 0
      have g1 := HPT.out.r.frozen 1
      have g2 := HPT.out.r.frozen 2
      have g3 := HPT.out.r.frozen 3
      have g4 := HPT.out.r.frozen 4
      have g5 := HPT.out.r.frozen 5
      have g6 := HPT.out.r.frozen 6
      have g7 := HPT.out.r.frozen 7
      go_region
      all_goals
        refine hKX1 _ _ (Met.intro (hJ1 _ _ ?_))
        (repeat apply Exists.intro)
        refine ⟨?_, rfl⟩
        (try rw [show w.heap.size + 1 + 1 = w.heap.size + 2 from rfl])
        first
          | (with_reducible exact Lib.hid ⟨PartsAt.drew (PartsAt.lr HPT.out), OwnN.lr HO8.out HPT.out, OwnN.lr HO9.out HPT.out⟩)
          | (with_reducible exact Lib.hid ⟨PartsAt.drew (PartsAt.rl HPT.out), OwnN.rl HO8.out HPT.out, OwnN.rl HO9.out HPT.out⟩)
    case rest =>
      obtain ⟨hM, hO1, hO2⟩ := hcut.out
      have MU := Lib.hid hM
      have OU1 := Lib.hid hO1
      have OU2 := Lib.hid hO2
      clear hcut hM hO1 hO2
      (try clear q0 q1 q2 q3 q4 q5 q6 q7)
      (try clear p0 p1 p2 p3 p4 p5 p6 p7)
      obtain ⟨t0, t1, t2, t3, t4, t5, t6, t7⟩ := MU.out.l.cells
      obtain ⟨u0, u1, u2, u3, u4, u5, u6, u7⟩ := MU.out.r.cells
      go_wp2
      refine bodyPost_ret (v := .tuple #[.agg #[.int .i64 lv, .string lo, .string bd, .bool false, .int .i64 cell, .slice (some ⟨ga, oa, none⟩) K1.length kc1, .slice va1 V1.length vc1, .slice ca1 R1.length cc1], .agg #[.int .i64 lv, .string bd, .string hi, .bool la, .int .i64 nx, .slice (some ⟨gb, ob, none⟩) K2.length kc2, .slice va2 V2.length vc2, .slice ca2 R2.length cc2]]) (by simp [results, Try.results59, go_sem, *]) rfl ?_
      rw [HLE.out, HRE.out]
      exact ⟨_, _, _, _, _, _, _, _, _, _, _, _, rfl, OU1.out, OU2.out, MU.out.below⟩
end Go.Proofs.Ytmkglaghnjnooaa
