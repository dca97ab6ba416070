/- inner.having: a node that has other entries, if it may be. Condition: sizes that fit. -/
import Derived.Test.YtjojfkddgdpnlaaInnerEnt
import Derived.Test.YtjojfkddgdpnlaaHeldTill
import Derived.Test.YtjojfkddgdpnlaaLeafIs
namespace Go.Proofs.Ytjojfkddgdpnlaa
open Go.RowKit

def kE (es : List (ByteArray × Int)) : List Value := es.map fun p => Value.string p.1
def cE (es : List (ByteArray × Int)) : List Value := es.map fun p => Value.int .i64 p.2
theorem kE_more (es : List (ByteArray × Int)) (a : Nat) (h : a < es.length) : (kE es).take (a + 1) = (kE es).take a ++ [.string (nte es a).1] := by
  rw [List.take_succ_eq_append_getElem (by unfold kE; rw [List.length_map]; exact h), nte_eq h]
  unfold kE
  rw [List.getElem_map]
theorem cE_more (es : List (ByteArray × Int)) (a : Nat) (h : a < es.length) : (cE es).take (a + 1) = (cE es).take a ++ [.int .i64 (nte es a).2] := by
  rw [List.take_succ_eq_append_getElem (by unfold cE; rw [List.length_map]; exact h), nte_eq h]
  unfold cE
  rw [List.getElem_map]
/-- A slice value that reads as entries, two cells each. -/
def RdE (w : World) (v : Value) (es : List (ByteArray × Int)) : Prop :=
  ∃ ao c, v = .slice ao es.length c ∧ es.length ≤ c ∧ c ≤ 9223372036854775807 ∧ (0 < es.length → ∃ g o, ao = some ⟨g, o, none⟩ ∧ ∀ j, j < es.length → w.cell? ⟨g, o + j * 2, none⟩ = some (.string (nte es j).1) ∧ w.cell? ⟨g, o + j * 2 + 1, none⟩ = some (.int .i64 (nte es j).2))
theorem RdE.keep {w w' : World} {v : Value} {es : List (ByteArray × Int)} (h : RdE w v es) (hb : Below w.heap.size w w') : RdE w' v es := by
  obtain ⟨ao, c, h1, h2, h3, h4⟩ := h
  refine ⟨ao, c, h1, h2, h3, fun hp => ?_⟩
  obtain ⟨g, o, e, hc⟩ := h4 hp
  refine ⟨g, o, e, fun j hj => ?_⟩
  have hlt : g < w.heap.size := World.block_lt_of_cell? w _ (hc j hj).1
  exact ⟨(hb.cell (p := ⟨g, o + j * 2, none⟩) hlt).trans (hc j hj).1, (hb.cell (p := ⟨g, o + j * 2 + 1, none⟩) hlt).trans (hc j hj).2⟩

/-- While it gathers: the box, the result's box, two rows that grow. -/
structure HavAt (w wr : World) (c0 c1 c2 c3 c4 kv cv ku cu : Value) (a b : Nat) (es : List (ByteArray × Int)) : Prop where
  box : NB wr w.heap.size #[c0, c1, c2, c3, c4, kv, .slice none 0 0, cv]
  res : NB wr (w.heap.size + 1) #[.int .i64 0, .string ⟨#[]⟩, .string ⟨#[]⟩, .bool false, .int .i64 0, .slice none 0 0, .slice none 0 0, .slice none 0 0]
  keys : wr.ownsRow (w.heap.size + 2) 9 1 ku a ((kE es).take a)
  kids : wr.ownsRow (w.heap.size + 2) 3 1 cu b ((cE es).take b)
  below : Below w.heap.size w wr
section
variable {w wr w9 : World} {c0 c1 c2 c3 c4 kv cv ku cu u : Value} {a b : Nat} {es : List (ByteArray × Int)}
theorem HavAt.keep (h : HavAt w wr c0 c1 c2 c3 c4 kv cv ku cu a b es) (hb : Below wr.heap.size wr w9) : HavAt w w9 c0 c1 c2 c3 c4 kv cv ku cu a b es :=
  ⟨h.box.below hb, h.res.below hb, own_stays h.keys hb, own_stays h.kids hb, h.below.trans (hb.mono h.below.size)⟩
theorem HavAt.size (h : HavAt w wr c0 c1 c2 c3 c4 kv cv ku cu a b es) : w.heap.size + 2 ≤ wr.heap.size := by have := lt_of_block h.res; omega
theorem HavAt.addK (h : HavAt w wr c0 c1 c2 c3 c4 kv cv ku cu a b es) (hg : wr.grownBy w9 ku.ownBlock) (ho : w9.ownsRow (w.heap.size + 2) 9 1 u (a + 1) ((kE es).take a ++ [.string (nte es a).1])) (ha : a < es.length) : HavAt w w9 c0 c1 c2 c3 c4 kv cv u cu (a + 1) b es := by
  have hr := own_inT h.keys
  rw [← kE_more es a ha] at ho
  exact ⟨h.box.grown hg hr (by decide), h.res.grown hg hr (by decide), ho, own_keeps h.kids hg hr (by decide), h.below.grown hg h.below.size (fun k hk => by have := (h.keys.lt k hk).1; omega)⟩
theorem HavAt.addC (h : HavAt w wr c0 c1 c2 c3 c4 kv cv ku cu a b es) (hg : wr.grownBy w9 cu.ownBlock) (ho : w9.ownsRow (w.heap.size + 2) 3 1 u (b + 1) ((cE es).take b ++ [.int .i64 (nte es b).2])) (hb : b < es.length) : HavAt w w9 c0 c1 c2 c3 c4 kv cv ku u a (b + 1) es := by
  have hr := own_inT h.kids
  rw [← cE_more es b hb] at ho
  exact ⟨h.box.grown hg hr (by decide), h.res.grown hg hr (by decide), own_keeps h.keys hg hr (by decide), ho, h.below.grown hg h.below.size (fun k hk => by have := (h.kids.lt k hk).1; omega)⟩
theorem HavAt.put (h : HavAt w wr c0 c1 c2 c3 c4 kv cv ku cu a b es) : HavAt w ((wr.setCell ⟨w.heap.size, 5, none⟩ ku).setCell ⟨w.heap.size, 7, none⟩ cu) c0 c1 c2 c3 c4 ku cu ku cu a b es := by
  have h1 := h.box.s5 ku
  have g1 := grown_set wr w.heap.size 5 ku
  have g2 := grown_set (wr.setCell ⟨w.heap.size, 5, none⟩ ku) w.heap.size 7 cu
  have t1 := nb_inT h.box
  have t2 := nb_inT h1
  exact ⟨h1.s7 cu, (h.res.far (p := ⟨w.heap.size, 5, none⟩) (by show w.heap.size + 1 ≠ w.heap.size; omega) ku).far (p := ⟨w.heap.size, 7, none⟩) (by show w.heap.size + 1 ≠ w.heap.size; omega) cu, own_keeps (own_keeps h.keys g1 t1 (by decide)) g2 t2 (by decide), own_keeps (own_keeps h.kids g1 t1 (by decide)) g2 t2 (by decide), (h.below.setCell (Nat.le_refl _) ku).setCell (Nat.le_refl _) cu⟩
end
theorem nameW {p : World → Prop} {w : World} (h : ∀ W, W = w → p W) : p w := h w rfl
/-- A block with one string, one number. -/
def OneS (w : World) (g : Nat) (s : ByteArray) : Prop := w.heap[g]? = some (.cells #[.string s] 9 (0, 0))
def OneI (w : World) (g : Nat) (z : Int) : Prop := w.heap[g]? = some (.cells #[.int .i64 z] 3 (0, 0))
def EntB (w : World) (g : Nat) (s : ByteArray) (z : Int) : Prop := w.heap[g]? = some (.cells #[.string s, .int .i64 z] 101 (0, 0))
section
variable {w w' : World} {g : Nat} {s : ByteArray} {z : Int} {row : Option Nat} {t' : TypeId}
theorem OneS.keep (h : OneS w g s) (hb : Below w.heap.size w w') : OneS w' g s := (hb.block _ (lt_of_block h)).trans h
theorem OneI.keep (h : OneI w g z) (hb : Below w.heap.size w w') : OneI w' g z := (hb.block _ (lt_of_block h)).trans h
theorem EntB.keep (h : EntB w g s z) (hb : Below w.heap.size w w') : EntB w' g s z := (hb.block _ (lt_of_block h)).trans h
theorem OneS.grown (h : OneS w g s) (hg : w.grownBy w' row) (hr : InT w row t') (hne : 9 ≠ t') : OneS w' g s := (hg.block g (lt_of_block h) (inT_ne h hr hne)).trans h
theorem OneI.grown (h : OneI w g z) (hg : w.grownBy w' row) (hr : InT w row t') (hne : 3 ≠ t') : OneI w' g z := (hg.block g (lt_of_block h) (inT_ne h hr hne)).trans h
theorem EntB.grown (h : EntB w g s z) (hg : w.grownBy w' row) (hr : InT w row t') (hne : 101 ≠ t') : EntB w' g s z := (hg.block g (lt_of_block h) (inT_ne h hr hne)).trans h
theorem EntB.c0 (h : EntB w g s z) : w.cell? ⟨g, 0, none⟩ = some (.string s) := cell_of_heap h
theorem EntB.c1 (h : EntB w g s z) : w.cell? ⟨g, 1, none⟩ = some (.int .i64 z) := cell_of_heap h
end
theorem kE_map (es : List (ByteArray × Int)) : kE es = (es.map (·.1)).map Value.string := by unfold kE; rw [List.map_map]; rfl
theorem cE_map (es : List (ByteArray × Int)) : cE es = (es.map (·.2)).map (Value.int .i64) := by unfold cE; rw [List.map_map]; rfl
theorem igave_none {w W' : World} (hb : Below w.heap.size w W') :
    GaveN w W' (.returned (.tuple #[.agg #[.int .i64 0, .string ⟨#[]⟩, .string ⟨#[]⟩, .bool false, .int .i64 0, .slice none 0 0, .slice none 0 0, .slice none 0 0], .bool false])) false .none :=
  ⟨none, none, none, 0, 0, 0, rfl, ⟨Rd.nil _, Rd.nil _, Rd.nil _⟩, hb, (fun _ h => by cases h), (fun _ h => by cases h), (fun _ h => by cases h)⟩
theorem igave_rows {w W' : World} {lv nx : Int} {lo hi : ByteArray} {la : Bool} {ka ca : Option Addr} {kc cc n m : Nat} {ks : List ByteArray} {cs : List Int} (hn : n = ks.length) (hm : m = cs.length)
    (h1 : Rd W' (.slice ka n kc) (ks.map Value.string)) (h2 : Rd W' (.slice ca m cc) (cs.map (Value.int .i64))) (f1 : Far w.heap.size ka) (f2 : Far w.heap.size ca) (hb : Below w.heap.size w W') :
    GaveN w W' (.returned (.tuple #[.agg #[.int .i64 lv, .string lo, .string hi, .bool la, .int .i64 nx, .slice ka n kc, .slice none 0 0, .slice ca m cc], .bool true])) true ⟨lv, nx, lo, hi, la, ks, [], cs⟩ := by
  subst hn
  subst hm
  exact ⟨ka, none, ca, kc, 0, cc, rfl, ⟨h1, Rd.nil _, h2⟩, hb, f1, (fun _ h => by cases h), f2⟩
theorem own_far {w : World} {B : Nat} {t : TypeId} {ao : Option Addr} {n c m : Nat} {xs : List Value} (h : w.ownsRow B t 1 (.slice ao n c) m xs) : Far B ao := by
  intro p hp
  rcases h.2 with ⟨e, _⟩ | ⟨g, cap, cur, e, hb, _⟩
  · injection e with e _ _
    rw [hp] at e; cases e
  · injection e with e _ _
    rw [hp] at e
    injection e with e
    rw [e]; exact hb
theorem ones_i (z : Int) : ∀ u ∈ [Value.int .i64 z], u.oneCell' = true := by intro u hu; simp at hu; rw [hu]; rfl
def HS (A E : Nat) (kv cv : Value) (s : ByteArray) (z : Int) (V : World) : Prop := V.cell? ⟨A, 5, none⟩ = some kv ∧ V.cell? ⟨A, 7, none⟩ = some cv ∧ V.cell? ⟨E, 0, none⟩ = some (.string s) ∧ V.cell? ⟨E, 1, none⟩ = some (.int .i64 z)
theorem hs_of {w V : World} {c0 c1 c2 c3 c4 kv cv ku cu : Value} {a b E : Nat} {es : List (ByteArray × Int)} {s : ByteArray} {z : Int} (h : HavAt w V c0 c1 c2 c3 c4 kv cv ku cu a b es) (he : EntB V E s z) : HS w.heap.size E kv cv s z V :=
  ⟨cell_of_heap h.box, cell_of_heap h.box, he.c0, he.c1⟩

set_option maxHeartbeats 8000000 in
set_option maxRecDepth 100000 in
theorem having_of (lv nx : Int) (lo hi : ByteArray) (la : Bool) (ak av ac : Option Addr) (ck cv cc : Nat) (ks : List ByteArray) (vs : List Nat) (cs : List Int) (eo : Option Addr) (en ec : Nat) (es : List (ByteArray × Int)) (gF gf : Nat) (lo0 : ByteArray) (fan : Int) (b : Bool) (w : World) (hR : RdE w (.slice eo en ec) es) (hp : 0 < es.length) (hn : es.length ≤ 274877906943)
    (hF : FrameB w gF lv nx lo0 hi la) (hG : FanB w gf fan) (hf : Fit (nte es 0).1 hi (es.map (·.1)) es.length 0 es.length)
    (hb : b = true ↔ (nte es 0).1 = lo0 ∧ (4 ≤ fan ∧ fan ≤ 64) ∧ SoundP lv nx (nte es 0).1 hi la es.length 0 es.length (es.map (·.1)) (es.map (·.2)) fan) :
    Calls Try.prog 63 #[.agg #[.int .i64 lv, .string lo, .string hi, .bool la, .int .i64 nx, .slice ak ks.length ck, .slice av vs.length cv, .slice ac cs.length cc], .slice eo en ec, .func (.func 114) #[] #[.pointer (some ⟨gF, 0, none⟩), .pointer (some ⟨gf, 0, none⟩)]] w fun e w' => GaveN w w' e b (Nod.or b ⟨lv, nx, (nte es 0).1, hi, la, es.map (·.1), [], es.map (·.2)⟩) := by
  obtain ⟨n1, n2, hB⟩ := boxes2 w #[.int .i64 lv, .string lo, .string hi, .bool la, .int .i64 nx, .slice ak ks.length ck, .slice av vs.length cv, .slice ac cs.length cc] #[.int .i64 0, .string ⟨#[]⟩, .string ⟨#[]⟩, .bool false, .int .i64 0, .slice none 0 0, .slice none 0 0, .slice none 0 0]
  obtain ⟨w1, hw1⟩ : ∃ w1, w1 = (w.alloc (.cells #[.int .i64 lv, .string lo, .string hi, .bool la, .int .i64 nx, .slice ak ks.length ck, .slice av vs.length cv, .slice ac cs.length cc] 26)).alloc (.cells #[.int .i64 0, .string ⟨#[]⟩, .string ⟨#[]⟩, .bool false, .int .i64 0, .slice none 0 0, .slice none 0 0, .slice none 0 0] 26) := ⟨_, rfl⟩
  rw [← hw1] at n1 n2 hB
  have hen : es.length = en ∧ en ≤ ec ∧ ec ≤ 9223372036854775807 := by
    obtain ⟨ao', c', h1, h2, h3, _⟩ := hR
    injection h1 with e1 e2 e3
    omega
  obtain ⟨ge, oe, rfl, hcs⟩ : ∃ g o, eo = some ⟨g, o, none⟩ ∧ ∀ j, j < es.length → w.cell? ⟨g, o + j * 2, none⟩ = some (.string (nte es j).1) ∧ w.cell? ⟨g, o + j * 2 + 1, none⟩ = some (.int .i64 (nte es j).2) := by
    obtain ⟨ao', c', h1, h2, h3, h4⟩ := hR
    injection h1 with e1 e2 e3
    subst e1
    exact h4 hp
  have HCE : Hid (∀ V, Below w.heap.size w V → ∀ j, j < es.length → V.cell? ⟨ge, oe + j * 2, none⟩ = some (.string (nte es j).1) ∧ V.cell? ⟨ge, oe + j * 2 + 1, none⟩ = some (.int .i64 (nte es j).2)) := Lib.hid (fun V h j hj => by
    have hlt : ge < w.heap.size := World.block_lt_of_cell? w _ (hcs j hj).1
    exact ⟨(h.cell (p := ⟨ge, oe + j * 2, none⟩) hlt).trans (hcs j hj).1, (h.cell (p := ⟨ge, oe + j * 2 + 1, none⟩) hlt).trans (hcs j hj).2⟩)
  have e00 := (HCE.out w1 hB 0 hp).1
  have HM := Lib.hid (fun V ak av ac nk ck nv cv nc cc (hN : NdAt V ak av ac nk ck nv cv nc cc (es.map (·.1)) [] (es.map (·.2))) (hf2 : Fit (nte es 0).1 hi (es.map (·.1)) nk nv nc) (h : Below w.heap.size w V) hb2 => mayIn_of lv nx (nte es 0).1 hi la ak av ac nk ck nv cv nc cc (es.map (·.1)) [] (es.map (·.2)) gF gf lo0 fan b V hN hf2 (hF.later h) (hG.later h) hb2)
  have HBB := Lib.hid hb
  have HFT := Lib.hid hf
  have HEN := Lib.hid hen.1
  obtain ⟨lo2, hlo2⟩ : ∃ x, x = (nte es 0).1 := ⟨_, rfl⟩
  obtain ⟨w2, hw2⟩ : ∃ w2, w2 = (((w1.setCell ⟨w.heap.size, 1, none⟩ (.string lo2)).setCell ⟨w.heap.size, 5, none⟩ (.slice none 0 0)).setCell ⟨w.heap.size, 6, none⟩ (.slice none 0 0)).setCell ⟨w.heap.size, 7, none⟩ (.slice none 0 0) := ⟨_, rfl⟩
  have H2 : Hid (HavAt w w2 (.int .i64 lv) (.string lo2) (.string hi) (.bool la) (.int .i64 nx) (.slice none 0 0) (.slice none 0 0) (.slice none 0 0) (.slice none 0 0) 0 0 es) := Lib.hid (by
    have b2 := (((n1.s1 (.string lo2)).s5 (.slice none 0 0)).s6 (.slice none 0 0)).s7 (.slice none 0 0)
    have hne : w.heap.size + 1 ≠ w.heap.size := by omega
    have r2 := (((n2.far (p := ⟨w.heap.size, 1, none⟩) hne (.string lo2)).far (p := ⟨w.heap.size, 5, none⟩) hne (.slice none 0 0)).far (p := ⟨w.heap.size, 6, none⟩) hne (.slice none 0 0)).far (p := ⟨w.heap.size, 7, none⟩) hne (.slice none 0 0)
    rw [← hw2] at b2 r2
    exact ⟨b2, r2, World.ownsRow_nil _ _ _ _, World.ownsRow_nil _ _ _ _, by rw [hw2]; exact (((hB.setCell (Nat.le_refl _) _).setCell (Nat.le_refl _) _).setCell (Nat.le_refl _) _).setCell (Nat.le_refl _) _⟩)
  rw [← hlo2] at e00 HM HBB HFT ⊢
  rw [Nat.zero_mul, Nat.add_zero] at e00
  have HW1 := Lib.hid hw1
  have HW2 := Lib.hid hw2
  have HLO := Lib.hid hlo2
  obtain ⟨q0, q1, q2, q3, q4, q5, q6, q7⟩ := n1.cells
  have x1 := n1.frozen 1
  have x5 := n1.frozen 5
  have x6 := n1.frozen 6
  have x7 := n1.frozen 7
  have h0n : (0 : Int) < en := by omega
  obtain ⟨i0, hi0, hz0, hz1, hz3⟩ := info_parts infoStr
  have HI := Lib.hid (show _ ∧ _ ∧ _ ∧ _ from ⟨hi0, hz0, hz1, hz3⟩)
  obtain ⟨i1, hi1, hy0, hy1, hy3⟩ := info_parts infoInt
  have HJ := Lib.hid (show _ ∧ _ ∧ _ ∧ _ from ⟨hi1, hy0, hy1, hy3⟩)
  have hnn : en ≤ 274877906943 := by omega
  have hec := hen.2.1
  have hec2 := hen.2.2
  clear hR hF hG hf hb n1 n2 hB hcs hen hw1 hw2 hlo2 hi0 hz0 hz1 hz3 hi1 hy0 hy1 hy3 hn hp
  go_enter Try.func63, Try.ntmps63
  go_upto_region 1 with fail
  rw [← HW1.out]
  go_upto_region 2 with fail
  rw [← HW2.out]
  clear q0 q1 q2 q3 q4 q5 q6 q7 x1 x5 x6 x7 e00 HW1 HW2
  go_wp2
  go_loopw [20] (fun s wr => ∃ (i : Nat) (ka ca : Option Addr) (kc cc2 : Nat), s = .int .i64 i ∧ i ≤ en ∧ Hid (HavAt w wr (.int .i64 lv) (.string lo2) (.string hi) (.bool la) (.int .i64 nx) (.slice ka i kc) (.slice ca i cc2) (.slice ka i kc) (.slice ca i cc2) i i es)) (fun s _ => en - (intOf s).toNat)
  case atStart => exact ⟨0, none, none, 0, 0, rfl, Nat.zero_le _, H2⟩
  case round =>
    obtain ⟨i, ka, ca, kc, cc2, rfl, hle, hA⟩ := hrel
    by_cases hlt : i < en
    · have hie : i < es.length := by have := HEN.out; omega
      have hce := HCE.out wr hA.out.below i hie
      have d1 := hce.1
      have d2 := hce.2
      obtain ⟨p, hpe⟩ : ∃ p, p = nte es i := ⟨_, rfl⟩
      rw [← hpe] at d1 d2
      obtain ⟨s, z⟩ := p
      have HPE := Lib.hid hpe.symm
      simp only at d1 d2
      have g1 : (i : Int) < en := by omega
      obtain ⟨W0, hW0⟩ : ∃ W0, W0 = wr.alloc (.cells #[.string s, .int .i64 z] 101) := ⟨_, rfl⟩
      have hbx := boxed_below wr (.cells #[.string s, .int .i64 z] 101)
      have HE0 : Hid (EntB W0 wr.heap.size s z) := Lib.hid (by rw [hW0]; exact heap_alloc_new wr _)
      rw [← hW0] at hbx
      have HA0 := Lib.hid (hA.out.keep hbx)
      have HW0 := Lib.hid hW0
      clear hce hpe hW0 hbx
      go_upto_region 5 with fail
      rw [← HW0.out]
      clear d1 d2 HW0
      have hS0 : HS w.heap.size wr.heap.size (.slice ka i kc) (.slice ca i cc2) s z W0.drew := hs_of (HA0.out.keep (Below.refl W0.heap.size W0).drew) (HE0.out.keep (Below.refl W0.heap.size W0).drew)
      refine wp_region_till (HS w.heap.size wr.heap.size (.slice ka i kc) (.slice ca i cc2) s z) 13 (by kernel_rfl) ?_
      refine wpAnyS_take 0 (some 24) [13] rfl rfl (by kernel_rfl) (by kernel_rfl) (by kernel_rfl) (by kernel_rfl) (by kernel_rfl) (by kernel_rfl) (by kernel_rfl) (fun _ _ _ h => h) (by rfl) (by intro V ⟨y1, y2, y3, y4⟩; go_simp; (first | done | (with_reducible rfl))) hS0 ?_
      simp only [Act.put, List.setIfInBounds_toArray, List.set_cons_zero, List.set_cons_succ]
      refine wpAnyS_take 1 (some 25) [13] rfl rfl (by kernel_rfl) (by kernel_rfl) (by kernel_rfl) (by kernel_rfl) (by kernel_rfl) (by kernel_rfl) (by kernel_rfl) (fun _ _ _ h => h) (by rfl) (by intro V ⟨y1, y2, y3, y4⟩; go_simp; (first | done | (with_reducible rfl))) hS0 ?_
      simp only [Act.put, List.setIfInBounds_toArray, List.set_cons_zero, List.set_cons_succ]
      refine wpAnyS_take 2 (some 26) [13] rfl rfl (by kernel_rfl) (by kernel_rfl) (by kernel_rfl) (by kernel_rfl) (by kernel_rfl) (by kernel_rfl) (by kernel_rfl) (fun _ _ _ h => h) (by rfl) (by intro V ⟨y1, y2, y3, y4⟩; go_simp; (first | done | (with_reducible rfl))) hS0 ?_
      simp only [Act.put, List.setIfInBounds_toArray, List.set_cons_zero, List.set_cons_succ]
      refine wpAnyS_take 3 (some 27) [13] rfl rfl (by kernel_rfl) (by kernel_rfl) (by kernel_rfl) (by kernel_rfl) (by kernel_rfl) (by kernel_rfl) (by kernel_rfl) (fun _ _ _ h => h) (by rfl) (by intro V ⟨y1, y2, y3, y4⟩; go_simp; (first | done | (with_reducible rfl))) hS0 ?_
      simp only [Act.put, List.setIfInBounds_toArray, List.set_cons_zero, List.set_cons_succ]
      refine wpAnyS_take 6 (some 30) [13] rfl rfl (by kernel_rfl) (by kernel_rfl) (by kernel_rfl) (by kernel_rfl) (by kernel_rfl) (by kernel_rfl) (by kernel_rfl) (fun _ _ _ h => h) (by rfl) (by intro V ⟨y1, y2, y3, y4⟩; go_simp; (first | done | (with_reducible rfl))) hS0 ?_
      simp only [Act.put, List.setIfInBounds_toArray, List.set_cons_zero, List.set_cons_succ]
      refine wpAnyS_take 7 (some 31) [13] rfl rfl (by kernel_rfl) (by kernel_rfl) (by kernel_rfl) (by kernel_rfl) (by kernel_rfl) (by kernel_rfl) (by kernel_rfl) (fun _ _ _ h => h) (by rfl) (by intro V ⟨y1, y2, y3, y4⟩; go_simp; (first | done | (with_reducible rfl))) hS0 ?_
      simp only [Act.put, List.setIfInBounds_toArray, List.set_cons_zero, List.set_cons_succ]
      refine wpAnyS_take 8 (some 32) [9, 10, 11, 13] rfl rfl (by kernel_rfl) (by kernel_rfl) (by kernel_rfl) (by kernel_rfl) (by kernel_rfl) (by kernel_rfl) (by kernel_rfl) (fun _ _ _ h => h) (by rfl) (by intro V ⟨y1, y2, y3, y4⟩; go_simp; (first | done | (with_reducible rfl))) hS0 ?_
      simp only [Act.put, List.setIfInBounds_toArray, List.set_cons_zero, List.set_cons_succ]
      refine wpAnyS_take 9 (some 33) [10, 11, 13] rfl rfl (by kernel_rfl) (by kernel_rfl) (by kernel_rfl) (by kernel_rfl) (by kernel_rfl) (by kernel_rfl) (by kernel_rfl) (fun _ _ _ h => h) (by rfl) (by intro V ⟨y1, y2, y3, y4⟩; go_simp; (first | done | (with_reducible rfl))) hS0 ?_
      simp only [Act.put, List.setIfInBounds_toArray, List.set_cons_zero, List.set_cons_succ]
      refine wpAnyS_ready [4, 10] (by kernel_rfl) (by simp) ?_
      refine AllReadyS.cons rfl (fun K hK => ?_) ?_
      · go_simp
        refine @nameW (fun W => K _ W) _ ?_
        intro V1 hV1
        have hb1 : Below W0.heap.size W0 V1 := by rw [hV1]; (first | exact (Below.refl _ _).alloc (Nat.le_refl _) _ | exact ((Below.refl _ _).alloc (Nat.le_refl _) _).drew | exact (Below.refl _ _).drew.alloc (Nat.le_refl _) _)
        have HN1 : Hid (OneS V1 W0.heap.size s) := Lib.hid (by rw [hV1]; exact heap_alloc_new W0 _)
        have HA101 := Lib.hid (HA0.out.keep hb1)
        have HE101 := Lib.hid (HE0.out.keep hb1)
        have hS1 : HS w.heap.size wr.heap.size (.slice ka i kc) (.slice ca i cc2) s z V1 := hs_of HA101.out HE101.out
        refine hK.out _ _ (fun _ => hS1) ?_
        clear hK K hV1 hb1 hS1
        refine wpAnyS_ready [5, 10] (by kernel_rfl) (by simp) ?_
        refine AllReadyS.cons rfl (fun K hK => ?_) ?_
        · refine step_append_lies _ rfl (.tmp 25) (.tmp 28) 22 rfl (w.heap.size + 2) 9 i0 (.string ⟨#[]⟩) 1 16 Try.underlying22 HI.out.1 HI.out.2.1 HI.out.2.2.1 HI.out.2.2.2 rfl (by decide) (.slice ka i kc) i ((kE es).take i) rfl HA101.out.keys ⟨_, 0, none⟩ 1 1 [.string s] rfl rfl (World.news_of_block (cs := #[.string s]) HN1.out) (ones_s _) (by omega) (by unfold maxLen; omega) (by omega) (by have := HA101.out.size; omega) _ rfl ?_
          intro g2 cap2 V2 hown2 hgrow2 _ _
          show K (Act.put _ (some 29) _) _
          have HA102 := Lib.hid (HA101.out.addK (u := .slice (some ⟨g2, 0, none⟩) (i + 1) cap2) hgrow2 (by rw [HPE.out]; exact hown2) hie)
          have HE102 := Lib.hid (HE101.out.grown hgrow2 (own_inT HA101.out.keys) (by decide))
          have hS2 : HS w.heap.size wr.heap.size (.slice ka i kc) (.slice ca i cc2) s z V2 := hs_of HA102.out HE102.out
          refine hK.out _ _ (fun _ => hS2) ?_
          clear hK K hown2 hgrow2
          simp only [Act.put, List.setIfInBounds_toArray, List.set_cons_zero, List.set_cons_succ]
          refine wpAnyS_take 12 (some 36) [13] rfl rfl (by kernel_rfl) (by kernel_rfl) (by kernel_rfl) (by kernel_rfl) (by kernel_rfl) (by kernel_rfl) (by kernel_rfl) (fun _ _ _ h => h) (by rfl) (by intro V ⟨y1, y2, y3, y4⟩; go_simp; (first | done | (with_reducible rfl))) hS2 ?_
          simp only [Act.put, List.setIfInBounds_toArray, List.set_cons_zero, List.set_cons_succ]
          clear hS2
          refine wpAnyS_ready [10] (by kernel_rfl) (by simp) ?_
          refine AllReadyS.cons rfl (fun K hK => ?_) ?_
          · go_simp
            refine @nameW (fun W => K _ W) _ ?_
            intro V3 hV3
            have hb3 : Below V2.heap.size V2 V3 := by rw [hV3]; (first | exact (Below.refl _ _).alloc (Nat.le_refl _) _ | exact ((Below.refl _ _).alloc (Nat.le_refl _) _).drew | exact (Below.refl _ _).drew.alloc (Nat.le_refl _) _)
            have HN3 : Hid (OneI V3 V2.heap.size z) := Lib.hid (by rw [hV3]; exact heap_alloc_new V2 _)
            have HA103 := Lib.hid (HA102.out.keep hb3)
            have HE103 := Lib.hid (HE102.out.keep hb3)
            have hS3 : HS w.heap.size wr.heap.size (.slice ka i kc) (.slice ca i cc2) s z V3 := hs_of HA103.out HE103.out
            refine hK.out _ _ (fun _ => hS3) ?_
            clear hK K hV3 hb3 hS3
            refine wpAnyS_ready [11] (by kernel_rfl) (by simp) ?_
            refine AllReadyS.cons rfl (fun K hK => ?_) ?_
            · refine step_append_lies _ rfl (.tmp 31) (.tmp 34) 24 rfl (w.heap.size + 2) 3 i1 (.int .i64 0) 1 8 Try.underlying24 HJ.out.1 HJ.out.2.1 HJ.out.2.2.1 HJ.out.2.2.2 rfl (by decide) (.slice ca i cc2) i ((cE es).take i) rfl HA103.out.kids ⟨_, 0, none⟩ 1 1 [.int .i64 z] rfl rfl (World.news_of_block (cs := #[.int .i64 z]) HN3.out) (ones_i _) (by omega) (by unfold maxLen; omega) (by omega) (by have := HA103.out.size; omega) _ rfl ?_
              intro g4 cap4 V4 hown4 hgrow4 _ _
              show K (Act.put _ (some 35) _) _
              have HA104 := Lib.hid (HA103.out.addC (u := .slice (some ⟨g4, 0, none⟩) (i + 1) cap4) hgrow4 (by rw [HPE.out]; exact hown4) hie)
              have HE104 := Lib.hid (HE103.out.grown hgrow4 (own_inT HA103.out.kids) (by decide))
              have hS4 : HS w.heap.size wr.heap.size (.slice ka i kc) (.slice ca i cc2) s z V4 := hs_of HA104.out HE104.out
              refine hK.out _ _ (fun _ => hS4) ?_
              clear hK K hown4 hgrow4 hS4
              simp only [Act.put, List.setIfInBounds_toArray, List.set_cons_zero, List.set_cons_succ]
              have q5 := (cell_of_heap HA104.out.box : V4.cell? ⟨w.heap.size, 5, none⟩ = _)
              have q7 := (cell_of_heap HA104.out.box : V4.cell? ⟨w.heap.size, 7, none⟩ = _)
              have f5 := HA104.out.box.frozen 5
              have f7 := HA104.out.box.frozen 7
              have H9 := Lib.hid HA104.out.put
              clear HA104 HE104
              simp only [List.getElem?_toArray, List.getElem?_cons_succ, List.getElem?_cons_zero] at q5 q7
              refine wpAnyS_ready [13] (by kernel_rfl) (by simp) ?_
              refine AllReadyS.cons rfl (fun K hK => ?_) AllReadyS.nil
              go_simp
              refine hK.out _ _ (fun h => absurd h (by decide)) ?_
              clear hK K
              refine wpAnyS_ready [14] (by kernel_rfl) (by simp) ?_
              refine AllReadyS.cons rfl (fun K hK => ?_) AllReadyS.nil
              go_simp
              refine hK.out _ _ (fun h => absurd h (by decide)) ?_
              clear hK K
              refine wpAnyS_ready [15] (by kernel_rfl) (by simp) ?_
              refine AllReadyS.cons rfl (fun K hK => ?_) AllReadyS.nil
              go_simp
              refine hK.out _ _ (fun h => absurd h (by decide)) ?_
              clear hK K
              refine wpAnyS_done (by kernel_rfl) ?_ _
              go_wp2
              go_roundw
              case rel => exact ⟨i + 1, _, _, _, _, by go_num, by omega, H9⟩
              case measure => simp [intOf]; omega
            exact AllReadyS.nil
          exact AllReadyS.nil
        refine AllReadyS.cons rfl (fun K hK => ?_) ?_
        · go_simp
          refine @nameW (fun W => K _ W) _ ?_
          intro V6 hV6
          have hb6 : Below V1.heap.size V1 V6 := by rw [hV6]; (first | exact (Below.refl _ _).alloc (Nat.le_refl _) _ | exact ((Below.refl _ _).alloc (Nat.le_refl _) _).drew | exact (Below.refl _ _).drew.alloc (Nat.le_refl _) _)
          have HN6 : Hid (OneI V6 V1.heap.size z) := Lib.hid (by rw [hV6]; exact heap_alloc_new V1 _)
          have HA106 := Lib.hid (HA101.out.keep hb6)
          have HE106 := Lib.hid (HE101.out.keep hb6)
          have HK6 := Lib.hid (HN1.out.keep hb6)
          have hS6 : HS w.heap.size wr.heap.size (.slice ka i kc) (.slice ca i cc2) s z V6 := hs_of HA106.out HE106.out
          refine hK.out _ _ (fun _ => hS6) ?_
          clear hK K hV6 hb6 hS6
          refine wpAnyS_ready [5] (by kernel_rfl) (by simp) ?_
          refine AllReadyS.cons rfl (fun K hK => ?_) ?_
          · refine step_append_lies _ rfl (.tmp 25) (.tmp 28) 22 rfl (w.heap.size + 2) 9 i0 (.string ⟨#[]⟩) 1 16 Try.underlying22 HI.out.1 HI.out.2.1 HI.out.2.2.1 HI.out.2.2.2 rfl (by decide) (.slice ka i kc) i ((kE es).take i) rfl HA106.out.keys ⟨_, 0, none⟩ 1 1 [.string s] rfl rfl (World.news_of_block (cs := #[.string s]) HK6.out) (ones_s _) (by omega) (by unfold maxLen; omega) (by omega) (by have := HA106.out.size; omega) _ rfl ?_
            intro g7 cap7 V7 hown7 hgrow7 _ _
            show K (Act.put _ (some 29) _) _
            have HA107 := Lib.hid (HA106.out.addK (u := .slice (some ⟨g7, 0, none⟩) (i + 1) cap7) hgrow7 (by rw [HPE.out]; exact hown7) hie)
            have HE107 := Lib.hid (HE106.out.grown hgrow7 (own_inT HA106.out.keys) (by decide))
            have HC7 := Lib.hid (HN6.out.grown hgrow7 (own_inT HA106.out.keys) (by decide))
            have hS7 : HS w.heap.size wr.heap.size (.slice ka i kc) (.slice ca i cc2) s z V7 := hs_of HA107.out HE107.out
            refine hK.out _ _ (fun _ => hS7) ?_
            clear hK K hown7 hgrow7
            simp only [Act.put, List.setIfInBounds_toArray, List.set_cons_zero, List.set_cons_succ]
            refine wpAnyS_take 12 (some 36) [13] rfl rfl (by kernel_rfl) (by kernel_rfl) (by kernel_rfl) (by kernel_rfl) (by kernel_rfl) (by kernel_rfl) (by kernel_rfl) (fun _ _ _ h => h) (by rfl) (by intro V ⟨y1, y2, y3, y4⟩; go_simp; (first | done | (with_reducible rfl))) hS7 ?_
            simp only [Act.put, List.setIfInBounds_toArray, List.set_cons_zero, List.set_cons_succ]
            clear hS7
            refine wpAnyS_ready [11] (by kernel_rfl) (by simp) ?_
            refine AllReadyS.cons rfl (fun K hK => ?_) ?_
            · refine step_append_lies _ rfl (.tmp 31) (.tmp 34) 24 rfl (w.heap.size + 2) 3 i1 (.int .i64 0) 1 8 Try.underlying24 HJ.out.1 HJ.out.2.1 HJ.out.2.2.1 HJ.out.2.2.2 rfl (by decide) (.slice ca i cc2) i ((cE es).take i) rfl HA107.out.kids ⟨_, 0, none⟩ 1 1 [.int .i64 z] rfl rfl (World.news_of_block (cs := #[.int .i64 z]) HC7.out) (ones_i _) (by omega) (by unfold maxLen; omega) (by omega) (by have := HA107.out.size; omega) _ rfl ?_
              intro g8 cap8 V8 hown8 hgrow8 _ _
              show K (Act.put _ (some 35) _) _
              have HA108 := Lib.hid (HA107.out.addC (u := .slice (some ⟨g8, 0, none⟩) (i + 1) cap8) hgrow8 (by rw [HPE.out]; exact hown8) hie)
              have HE108 := Lib.hid (HE107.out.grown hgrow8 (own_inT HA107.out.kids) (by decide))
              have hS8 : HS w.heap.size wr.heap.size (.slice ka i kc) (.slice ca i cc2) s z V8 := hs_of HA108.out HE108.out
              refine hK.out _ _ (fun _ => hS8) ?_
              clear hK K hown8 hgrow8 hS8
              simp only [Act.put, List.setIfInBounds_toArray, List.set_cons_zero, List.set_cons_succ]
              have q5 := (cell_of_heap HA108.out.box : V8.cell? ⟨w.heap.size, 5, none⟩ = _)
              have q7 := (cell_of_heap HA108.out.box : V8.cell? ⟨w.heap.size, 7, none⟩ = _)
              have f5 := HA108.out.box.frozen 5
              have f7 := HA108.out.box.frozen 7
              have H9 := Lib.hid HA108.out.put
              clear HA108 HE108
              simp only [List.getElem?_toArray, List.getElem?_cons_succ, List.getElem?_cons_zero] at q5 q7
              refine wpAnyS_ready [13] (by kernel_rfl) (by simp) ?_
              refine AllReadyS.cons rfl (fun K hK => ?_) AllReadyS.nil
              go_simp
              refine hK.out _ _ (fun h => absurd h (by decide)) ?_
              clear hK K
              refine wpAnyS_ready [14] (by kernel_rfl) (by simp) ?_
              refine AllReadyS.cons rfl (fun K hK => ?_) AllReadyS.nil
              go_simp
              refine hK.out _ _ (fun h => absurd h (by decide)) ?_
              clear hK K
              refine wpAnyS_ready [15] (by kernel_rfl) (by simp) ?_
              refine AllReadyS.cons rfl (fun K hK => ?_) AllReadyS.nil
              go_simp
              refine hK.out _ _ (fun h => absurd h (by decide)) ?_
              clear hK K
              refine wpAnyS_done (by kernel_rfl) ?_ _
              go_wp2
              go_roundw
              case rel => exact ⟨i + 1, _, _, _, _, by go_num, by omega, H9⟩
              case measure => simp [intOf]; omega
            exact AllReadyS.nil
          exact AllReadyS.nil
        exact AllReadyS.nil
      refine AllReadyS.cons rfl (fun K hK => ?_) ?_
      · go_simp
        refine @nameW (fun W => K _ W) _ ?_
        intro V10 hV10
        have hb10 : Below W0.heap.size W0 V10 := by rw [hV10]; (first | exact (Below.refl _ _).alloc (Nat.le_refl _) _ | exact ((Below.refl _ _).alloc (Nat.le_refl _) _).drew | exact (Below.refl _ _).drew.alloc (Nat.le_refl _) _)
        have HN10 : Hid (OneI V10 W0.heap.size z) := Lib.hid (by rw [hV10]; exact heap_alloc_new W0 _)
        have HA110 := Lib.hid (HA0.out.keep hb10)
        have HE110 := Lib.hid (HE0.out.keep hb10)
        have hS10 : HS w.heap.size wr.heap.size (.slice ka i kc) (.slice ca i cc2) s z V10 := hs_of HA110.out HE110.out
        refine hK.out _ _ (fun _ => hS10) ?_
        clear hK K hV10 hb10 hS10
        refine wpAnyS_ready [4] (by kernel_rfl) (by simp) ?_
        refine AllReadyS.cons rfl (fun K hK => ?_) ?_
        · go_simp
          refine @nameW (fun W => K _ W) _ ?_
          intro V11 hV11
          have hb11 : Below V10.heap.size V10 V11 := by rw [hV11]; (first | exact (Below.refl _ _).alloc (Nat.le_refl _) _ | exact ((Below.refl _ _).alloc (Nat.le_refl _) _).drew | exact (Below.refl _ _).drew.alloc (Nat.le_refl _) _)
          have HN11 : Hid (OneS V11 V10.heap.size s) := Lib.hid (by rw [hV11]; exact heap_alloc_new V10 _)
          have HA111 := Lib.hid (HA110.out.keep hb11)
          have HE111 := Lib.hid (HE110.out.keep hb11)
          have HC11 := Lib.hid (HN10.out.keep hb11)
          have hS11 : HS w.heap.size wr.heap.size (.slice ka i kc) (.slice ca i cc2) s z V11 := hs_of HA111.out HE111.out
          refine hK.out _ _ (fun _ => hS11) ?_
          clear hK K hV11 hb11 hS11
          refine wpAnyS_ready [5] (by kernel_rfl) (by simp) ?_
          refine AllReadyS.cons rfl (fun K hK => ?_) ?_
          · refine step_append_lies _ rfl (.tmp 25) (.tmp 28) 22 rfl (w.heap.size + 2) 9 i0 (.string ⟨#[]⟩) 1 16 Try.underlying22 HI.out.1 HI.out.2.1 HI.out.2.2.1 HI.out.2.2.2 rfl (by decide) (.slice ka i kc) i ((kE es).take i) rfl HA111.out.keys ⟨_, 0, none⟩ 1 1 [.string s] rfl rfl (World.news_of_block (cs := #[.string s]) HN11.out) (ones_s _) (by omega) (by unfold maxLen; omega) (by omega) (by have := HA111.out.size; omega) _ rfl ?_
            intro g12 cap12 V12 hown12 hgrow12 _ _
            show K (Act.put _ (some 29) _) _
            have HA112 := Lib.hid (HA111.out.addK (u := .slice (some ⟨g12, 0, none⟩) (i + 1) cap12) hgrow12 (by rw [HPE.out]; exact hown12) hie)
            have HE112 := Lib.hid (HE111.out.grown hgrow12 (own_inT HA111.out.keys) (by decide))
            have HC12 := Lib.hid (HC11.out.grown hgrow12 (own_inT HA111.out.keys) (by decide))
            have hS12 : HS w.heap.size wr.heap.size (.slice ka i kc) (.slice ca i cc2) s z V12 := hs_of HA112.out HE112.out
            refine hK.out _ _ (fun _ => hS12) ?_
            clear hK K hown12 hgrow12
            simp only [Act.put, List.setIfInBounds_toArray, List.set_cons_zero, List.set_cons_succ]
            refine wpAnyS_take 12 (some 36) [13] rfl rfl (by kernel_rfl) (by kernel_rfl) (by kernel_rfl) (by kernel_rfl) (by kernel_rfl) (by kernel_rfl) (by kernel_rfl) (fun _ _ _ h => h) (by rfl) (by intro V ⟨y1, y2, y3, y4⟩; go_simp; (first | done | (with_reducible rfl))) hS12 ?_
            simp only [Act.put, List.setIfInBounds_toArray, List.set_cons_zero, List.set_cons_succ]
            clear hS12
            refine wpAnyS_ready [11] (by kernel_rfl) (by simp) ?_
            refine AllReadyS.cons rfl (fun K hK => ?_) ?_
            · refine step_append_lies _ rfl (.tmp 31) (.tmp 34) 24 rfl (w.heap.size + 2) 3 i1 (.int .i64 0) 1 8 Try.underlying24 HJ.out.1 HJ.out.2.1 HJ.out.2.2.1 HJ.out.2.2.2 rfl (by decide) (.slice ca i cc2) i ((cE es).take i) rfl HA112.out.kids ⟨_, 0, none⟩ 1 1 [.int .i64 z] rfl rfl (World.news_of_block (cs := #[.int .i64 z]) HC12.out) (ones_i _) (by omega) (by unfold maxLen; omega) (by omega) (by have := HA112.out.size; omega) _ rfl ?_
              intro g13 cap13 V13 hown13 hgrow13 _ _
              show K (Act.put _ (some 35) _) _
              have HA113 := Lib.hid (HA112.out.addC (u := .slice (some ⟨g13, 0, none⟩) (i + 1) cap13) hgrow13 (by rw [HPE.out]; exact hown13) hie)
              have HE113 := Lib.hid (HE112.out.grown hgrow13 (own_inT HA112.out.kids) (by decide))
              have hS13 : HS w.heap.size wr.heap.size (.slice ka i kc) (.slice ca i cc2) s z V13 := hs_of HA113.out HE113.out
              refine hK.out _ _ (fun _ => hS13) ?_
              clear hK K hown13 hgrow13 hS13
              simp only [Act.put, List.setIfInBounds_toArray, List.set_cons_zero, List.set_cons_succ]
              have q5 := (cell_of_heap HA113.out.box : V13.cell? ⟨w.heap.size, 5, none⟩ = _)
              have q7 := (cell_of_heap HA113.out.box : V13.cell? ⟨w.heap.size, 7, none⟩ = _)
              have f5 := HA113.out.box.frozen 5
              have f7 := HA113.out.box.frozen 7
              have H9 := Lib.hid HA113.out.put
              clear HA113 HE113
              simp only [List.getElem?_toArray, List.getElem?_cons_succ, List.getElem?_cons_zero] at q5 q7
              refine wpAnyS_ready [13] (by kernel_rfl) (by simp) ?_
              refine AllReadyS.cons rfl (fun K hK => ?_) AllReadyS.nil
              go_simp
              refine hK.out _ _ (fun h => absurd h (by decide)) ?_
              clear hK K
              refine wpAnyS_ready [14] (by kernel_rfl) (by simp) ?_
              refine AllReadyS.cons rfl (fun K hK => ?_) AllReadyS.nil
              go_simp
              refine hK.out _ _ (fun h => absurd h (by decide)) ?_
              clear hK K
              refine wpAnyS_ready [15] (by kernel_rfl) (by simp) ?_
              refine AllReadyS.cons rfl (fun K hK => ?_) AllReadyS.nil
              go_simp
              refine hK.out _ _ (fun h => absurd h (by decide)) ?_
              clear hK K
              refine wpAnyS_done (by kernel_rfl) ?_ _
              go_wp2
              go_roundw
              case rel => exact ⟨i + 1, _, _, _, _, by go_num, by omega, H9⟩
              case measure => simp [intOf]; omega
            exact AllReadyS.nil
          exact AllReadyS.nil
        exact AllReadyS.nil
      exact AllReadyS.nil
    · obtain rfl : i = en := by omega
      have hE := HEN.out
      subst hE
      have hk9 := hA.out.keys
      have hc9 := hA.out.kids
      rw [List.take_of_length_le (by unfold kE; rw [List.length_map]; exact Nat.le_refl _), kE_map] at hk9
      rw [List.take_of_length_le (by unfold cE; rw [List.length_map]; exact Nat.le_refl _), cE_map] at hc9
      have HK9 := Lib.hid hk9
      have HC9 := Lib.hid hc9
      have HND : Hid (NdAt wr ka none ca es.length kc 0 0 es.length cc2 (es.map (·.1)) [] (es.map (·.2))) := Lib.hid ⟨rd_of_owns hk9, Rd.nil _, rd_of_owns hc9⟩
      have HMC := Lib.hid (HM.out wr ka none ca es.length kc 0 0 es.length cc2 HND.out HFT.out hA.out.below HBB.out)
      have HLN : Hid (es.length = (es.map (·.1)).length ∧ es.length = (es.map (·.2)).length) := Lib.hid (by rw [List.length_map, List.length_map]; exact ⟨rfl, rfl⟩)
      clear hk9 hc9 HM
      obtain ⟨q0, q1, q2, q3, q4, q5, q6, q7⟩ := (⟨cell_of_heap hA.out.box, cell_of_heap hA.out.box, cell_of_heap hA.out.box, cell_of_heap hA.out.box, cell_of_heap hA.out.box, cell_of_heap hA.out.box, cell_of_heap hA.out.box, cell_of_heap hA.out.box⟩ : wr.cell? ⟨w.heap.size, 0, none⟩ = some (.int .i64 lv) ∧ wr.cell? ⟨w.heap.size, 1, none⟩ = some (.string lo2) ∧ wr.cell? ⟨w.heap.size, 2, none⟩ = some (.string hi) ∧ wr.cell? ⟨w.heap.size, 3, none⟩ = some (.bool la) ∧ wr.cell? ⟨w.heap.size, 4, none⟩ = some (.int .i64 nx) ∧ wr.cell? ⟨w.heap.size, 5, none⟩ = some (.slice ka es.length kc) ∧ wr.cell? ⟨w.heap.size, 6, none⟩ = some (.slice none 0 0) ∧ wr.cell? ⟨w.heap.size, 7, none⟩ = some (.slice ca es.length cc2))
      go_wp2_with fail
      refine HMC.out.mono ?_
      rintro e w8 ⟨rfl, hb8⟩
      have HB8 := Lib.hid hb8
      have HR8 := Lib.hid (hA.out.res.below hb8)
      have HX8 := Lib.hid (hA.out.box.below hb8)
      have HBW := Lib.hid (hA.out.below.trans (hb8.mono hA.out.below.size))
      clear hb8 q0 q1 q2 q3 q4 q5 q6 q7
      obtain ⟨t0, t1, t2, t3, t4, t5, t6, t7⟩ := HR8.out.cells
      have f0 := HR8.out.frozen 0
      have f1 := HR8.out.frozen 1
      have f2 := HR8.out.frozen 2
      have f3 := HR8.out.frozen 3
      have f4 := HR8.out.frozen 4
      have f5 := HR8.out.frozen 5
      have f6 := HR8.out.frozen 6
      have f7 := HR8.out.frozen 7
      cases b with
      | false =>
        go_wp2
        refine bodyPost_ret (v := .tuple #[.agg #[.int .i64 0, .string ⟨#[]⟩, .string ⟨#[]⟩, .bool false, .int .i64 0, .slice none 0 0, .slice none 0 0, .slice none 0 0], .bool false]) (by simp [results, Try.results63, go_sem, *]) rfl ?_
        exact igave_none (wr5_below (w.heap.size + 1) w.heap.size (by omega) [(0, _), (1, _), (2, _), (3, _), (4, _), (5, _), (6, _), (7, _)] w w8 HBW.out)
      | true =>
        obtain ⟨q0, q1, q2, q3, q4, q5, q6, q7⟩ := HX8.out.cells
        go_wp2
        refine bodyPost_ret (v := .tuple #[.agg #[.int .i64 lv, .string lo2, .string hi, .bool la, .int .i64 nx, .slice ka es.length kc, .slice none 0 0, .slice ca es.length cc2], .bool true]) (by simp [results, Try.results63, go_sem, *]) rfl ?_
        have hk8 := own_stays HK9.out HB8.out
        have hc8 := own_stays HC9.out HB8.out
        have hb9 := wr5_below (w.heap.size + 1) w.heap.size (by omega) [(0, .int .i64 lv), (1, .string lo2), (2, .string hi), (3, .bool la), (4, .int .i64 nx), (5, .slice ka es.length kc), (6, .slice none 0 0), (7, .slice ca es.length cc2)] w w8 HBW.out
        have hk7 := own_wr5 hk8 HR8.out (by decide) [(0, .int .i64 lv), (1, .string lo2), (2, .string hi), (3, .bool la), (4, .int .i64 nx), (5, .slice ka es.length kc), (6, .slice none 0 0), (7, .slice ca es.length cc2)]
        have hc7 := own_wr5 hc8 HR8.out (by decide) [(0, .int .i64 lv), (1, .string lo2), (2, .string hi), (3, .bool la), (4, .int .i64 nx), (5, .slice ka es.length kc), (6, .slice none 0 0), (7, .slice ca es.length cc2)]
        exact igave_rows HLN.out.1 HLN.out.2 (rd_of_owns hk7) (rd_of_owns hc7) ((own_far hk7).base (by omega)) ((own_far hc7).base (by omega)) hb9

end Go.Proofs.Ytjojfkddgdpnlaa
