/- inner.Post: a node with one entry more, or none. Condition: sizes that fit. -/
import Derived.Test.YtjojfkddgdpnlaaInnerHav
import Derived.Test.YtjojfkddgdpnlaaFind2
import Derived.Deep.RegionLawGrows
import Derived.Deep.RegionHeldLaw
namespace Go.Proofs.Ytjojfkddgdpnlaa
open Go.RowKit

/-- append as a step of a region, onto a row of the call's own, of whatever many. -/
theorem step_append_many {P : Program} {ops : Array Oper} {o : Oper} {a : Act} {w : World} {K : Act → World → Prop} {Q : Exit → Act → World → Prop} {E : Prop}
    (hg : o.guard = none) (s x : Operand) (t : TypeId) (hop : o.op = Op.call { callee := Callee.builtin Builtin.append, args := #[s, x], argTypes := #[t, t] })
    (base : Nat) (e : TypeId) (i : TypeInfo) (z : Value) (size bytes : Nat) (h1 : P.underlying t = some (.slice e)) (h2 : P.info? e = some i) (h3 : i.zero = some z) (h4 : i.size = size) (h5 : i.bytes = bytes) (h6 : z.cells.size = size) (h7 : 0 < size)
    (v : Value) (n : Nat) (xs : List Value) (hs : a.eval s = v) (hown : w.ownsRow base e size v n xs)
    (ad : Addr) (m c : Nat) (news : List Value) (hx : a.eval x = .slice (some ad) m c) (hn : news.length = m * size) (hc : ∀ j u, news[j]? = some u → w.cell? (ad.add j) = some u) (h1c : ∀ u ∈ news, u.oneCell' = true)
    (b1 : n + m ≤ maxLen) (b2 : (n + m) * bytes ≤ 140737488355328) (hbase : base ≤ w.heap.size)
    (hK : ∀ v' w', w'.ownsRow base e size v' (n + m) (xs ++ news) → w.grownBy w' v.ownBlock → K (a.put o.dst v') w') :
    if Region.wanted o (yielded ops a.tmps) = true then Oper.wp P o a w K Q else E := by
  have hw : Region.wanted o (yielded ops a.tmps) = true := by simp [Region.wanted, hg]
  rw [if_pos hw]
  obtain ⟨v', w', hrun, r1, r2, _⟩ := run_append_own (P := P) (w := w) base t o.type e i z size bytes h1 h2 h3 h4 h5 h6 h7 v n xs hown ad m c news hn hc h1c b1 b2 hbase
  unfold Oper.wp
  simp [execOp, hop, resolve, invoke, builtin, hs, hx, hrun, Result.andThen]
  exact hK v' w' r1 r2

theorem ecells_take (es : List (ByteArray × Int)) (a : Nat) (h : a ≤ es.length) : ecells (es.take a) = (ecells es).take (a * 2) := by
  have e1 : ecells es = ecells (es.take a) ++ ecells (es.drop a) := by rw [← ecells_append, List.take_append_drop]
  have hl : (ecells (es.take a)).length = a * 2 := by rw [ecells_len, List.length_take]; omega
  rw [e1, ← hl, List.take_left]
theorem ecells_drop (es : List (ByteArray × Int)) (a : Nat) (h : a ≤ es.length) : ecells (es.drop a) = (ecells es).drop (a * 2) := by
  have e1 : ecells es = ecells (es.take a) ++ ecells (es.drop a) := by rw [← ecells_append, List.take_append_drop]
  have hl : (ecells (es.take a)).length = a * 2 := by rw [ecells_len, List.length_take]; omega
  rw [e1, ← hl, List.drop_left]
theorem add_block (g o j : Nat) : (⟨g, o, none⟩ : Addr).add j = ⟨g, o + j, none⟩ := by
  by_cases h0 : j = 0
  · subst h0; simp [Addr.add]
  · simp [Addr.add, h0]
theorem RowE.takes {w : World} {g : Nat} {es : List (ByteArray × Int)} (h : RowE w g es) (a : Nat) (ha : a ≤ es.length) : ∀ b, (some (⟨g, 0, none⟩ : Addr)) = some b → ∀ j u, (ecells (es.take a))[j]? = some u → w.cell? (b.add j) = some u := by
  intro b e j u hj
  injection e with e
  subst e
  rw [add_block, Nat.zero_add, Whole.cell h]
  rw [ecells_take es a ha] at hj
  have hlt : j < ((ecells es).take (a * 2)).length := (List.getElem?_eq_some_iff.1 hj).1
  rw [List.length_take] at hlt
  rw [List.getElem?_take, if_pos (by omega)] at hj
  exact hj
theorem RowE.drops {w : World} {g : Nat} {es : List (ByteArray × Int)} (h : RowE w g es) (a : Nat) (ha : a ≤ es.length) : ∀ j u, (ecells (es.drop a))[j]? = some u → w.cell? ((⟨g, a * 2, none⟩ : Addr).add j) = some u := by
  intro j u hj
  rw [add_block, Whole.cell h]
  rw [ecells_drop es a ha, List.getElem?_drop] at hj
  exact hj
theorem news_two (w : World) (s : ByteArray) (z : Int) (t : TypeId) : ∀ j u, [Value.string s, .int .i64 z][j]? = some u → (w.alloc (.cells #[.string s, .int .i64 z] t)).cell? ((⟨w.heap.size, 0, none⟩ : Addr).add j) = some u :=
  World.news_of_block (cs := #[.string s, .int .i64 z]) (heap_alloc_new w _)
theorem news_twoD (w : World) (s : ByteArray) (z : Int) (t : TypeId) : ∀ j u, [Value.string s, .int .i64 z][j]? = some u → (w.alloc (.cells #[.string s, .int .i64 z] t)).drew.cell? ((⟨w.heap.size, 0, none⟩ : Addr).add j) = some u := news_two w s z t
theorem ones_e (s : ByteArray) (z : Int) : ∀ u ∈ [Value.string s, .int .i64 z], u.oneCell' = true := by intro u hu; simp at hu; rcases hu with rfl | rfl <;> rfl
theorem row_form2 {w : World} {B : Nat} {e : TypeId} {k : Nat} {v : Value} {n : Nat} {xs : List Value} (h : w.ownsRow B e k v n xs) : ∃ ao c, v = .slice ao n c := by
  rcases h.2 with ⟨rfl, hn⟩ | ⟨g, cap, cur, rfl, _⟩
  · exact ⟨none, 0, by rw [hn]⟩
  · exact ⟨_, _, rfl⟩
theorem rdE_of {w : World} {B : Nat} {v : Value} {es : List (ByteArray × Int)} {n : Nat} (h : w.ownsRow B 101 2 v n (ecells es)) (hn : n = es.length) : RdE w v es := by
  have h0 := h
  rcases h.2 with ⟨rfl, hz⟩ | ⟨g, cap, cur, rfl, _, hg, hnc, hm, _⟩
  · have : es = [] := List.eq_nil_of_length_eq_zero (by omega)
    subst this
    exact ⟨none, 0, rfl, Nat.le_refl _, by omega, fun h => absurd h (by simp)⟩
  · unfold maxLen at hm
    refine ⟨_, cap, by rw [hn], by omega, hm, fun _ => ⟨g, 0, rfl, fun j hj => ?_⟩⟩
    have := ecells_get es j hj
    rw [Nat.zero_add]
    exact ⟨(h0.cellAt (j * 2) (by omega)).trans this.1, (h0.cellAt (j * 2 + 1) (by omega)).trans this.2⟩
theorem NB.ifar8 {W : World} {A g : Nat} {cs : Array Value} (h : NB W A cs) (hne : A ≠ g) (v0 v1 v2 v3 v4 v5 v6 v7 : Value) : NB ((((((((W.setCell ⟨g, 0, none⟩ v0).setCell ⟨g, 1, none⟩ v1).setCell ⟨g, 2, none⟩ v2).setCell ⟨g, 3, none⟩ v3).setCell ⟨g, 4, none⟩ v4).setCell ⟨g, 5, none⟩ v5).setCell ⟨g, 6, none⟩ v6).setCell ⟨g, 7, none⟩ v7) A cs :=
  (wr5_far g A hne [(0, v0), (1, v1), (2, v2), (3, v3), (4, v4), (5, v5), (6, v6), (7, v7)] W).trans h
theorem Nod.ior_no (n : Nod) : Nod.or false n = .none := rfl
/-- What was told, stored into a box that is not its own. -/
theorem gave_stored {w w5 w8 : World} {A : Nat} {v : Value} {b : Bool} {n : Nod} (h : GaveN w5 w8 (.returned v) b n) (hb : Below w.heap.size w w5) (hA : w.heap.size ≤ A) (hA5 : A < w5.heap.size) (l : List (Nat × Value)) : GaveN w (wr5 w8 A l) (.returned v) b n := by
  obtain ⟨ak, av, ac, ck, cv, cc, h1, h2, h3, f1, f2, f3⟩ := h
  have ho : ∀ g, w5.heap.size ≤ g → (wr5 w8 A l).heap[g]? = w8.heap[g]? := fun g hg => wr5_far A g (by omega) l w8
  exact ⟨ak, av, ac, ck, cv, cc, h1, ⟨h2.k.off f1 ho, h2.v.off f2 ho, h2.c.off f3 ho⟩, wr5_below A w.heap.size hA l w w8 (hb.trans (h3.mono hb.size)), f1.base hb.size, f2.base hb.size, f3.base hb.size⟩

/-- An entry more. -/
def postE (es : List (ByteArray × Int)) (a : Nat) (low : ByteArray) (kid : Int) : List (ByteArray × Int) := es.take a ++ (low, kid) :: es.drop a
theorem postE_len {es : List (ByteArray × Int)} {a : Nat} (h : a ≤ es.length) (low : ByteArray) (kid : Int) : (postE es a low kid).length = es.length + 1 := by
  unfold postE; rw [List.length_append, List.length_cons, List.length_take, List.length_drop]; omega
theorem postE_cells (es : List (ByteArray × Int)) (a : Nat) (low : ByteArray) (kid : Int) : ecells (postE es a low kid) = (ecells (es.take a) ++ [.string low, .int .i64 kid]) ++ ecells (es.drop a) := by
  unfold postE
  rw [ecells_append, List.append_assoc]; rfl
theorem postE_keys {ks : List ByteArray} {cs : List Int} (h : cs.length = ks.length) (a : Nat) (low : ByteArray) (kid : Int) : (postE (ents ks cs) a low kid).map (·.1) = insF ks a low := by
  unfold postE insF
  rw [List.map_append, List.map_cons, List.map_take, List.map_drop, ents_keys h]
theorem postE_kids {ks : List ByteArray} {cs : List Int} (h : cs.length = ks.length) (a : Nat) (low : ByteArray) (kid : Int) : (postE (ents ks cs) a low kid).map (·.2) = insF cs a kid := by
  unfold postE insF
  rw [List.map_append, List.map_cons, List.map_take, List.map_drop, ents_kids h]
/-- A node with an entry more. -/
def Nod.post (n : Nod) (low : ByteArray) (kid : Int) : Nod := { n with ks := insF n.ks (placeF n.ks low) low, vs := [], cs := insF n.cs (placeF n.ks low) kid }
def Nod.PostP (n : Nod) (low : ByteArray) (kid fan : Int) : Prop := n.Inner ∧ (4 ≤ fan ∧ fan ≤ 64) ∧ (n.post low kid).Sound fan

set_option maxHeartbeats 8000000 in
set_option maxRecDepth 100000 in
theorem post_of (lv nx : Int) (lo hi : ByteArray) (la : Bool) (ak av ac : Option Addr) (ck cv cc : Nat) (ks : List ByteArray) (vs : List Nat) (cs : List Int) (low : ByteArray) (kid fan : Int) (b : Bool) (w : World) (hN : NdAt w ak av ac ks.length ck vs.length cv cs.length cc ks vs cs) (hf : Fit lo hi ks ks.length vs.length cs.length) (hk : low.size ≤ 140737488355328) (hb : b = true ↔ Nod.PostP ⟨lv, nx, lo, hi, la, ks, vs, cs⟩ low kid fan) :
    Calls Try.prog 13 #[.agg #[.int .i64 lv, .string lo, .string hi, .bool la, .int .i64 nx, .slice ak ks.length ck, .slice av vs.length cv, .slice ac cs.length cc], .string low, .int .i64 kid, .int .i64 fan] w fun e w' => GaveN w w' e b (Nod.or b (Nod.post ⟨lv, nx, lo, hi, la, ks, vs, cs⟩ low kid)) := by
  obtain ⟨n1, n2, hB⟩ := boxes2 w #[.int .i64 lv, .string lo, .string hi, .bool la, .int .i64 nx, .slice ak ks.length ck, .slice av vs.length cv, .slice ac cs.length cc] #[.int .i64 0, .string ⟨#[]⟩, .string ⟨#[]⟩, .bool false, .int .i64 0, .slice none 0 0, .slice none 0 0, .slice none 0 0]
  obtain ⟨w1, hw1⟩ : ∃ w1, w1 = (w.alloc (.cells #[.int .i64 lv, .string lo, .string hi, .bool la, .int .i64 nx, .slice ak ks.length ck, .slice av vs.length cv, .slice ac cs.length cc] 26)).alloc (.cells #[.int .i64 0, .string ⟨#[]⟩, .string ⟨#[]⟩, .bool false, .int .i64 0, .slice none 0 0, .slice none 0 0, .slice none 0 0] 26) := ⟨_, rfl⟩
  have HB : Hid (Below w.heap.size w w1) := Lib.hid (by rw [hw1]; exact hB)
  have HN1 : Hid (NB w1 w.heap.size #[.int .i64 lv, .string lo, .string hi, .bool la, .int .i64 nx, .slice ak ks.length ck, .slice av vs.length cv, .slice ac cs.length cc]) := Lib.hid (by rw [hw1]; exact n1)
  have HN2 : Hid (NB w1 (w.heap.size + 1) #[.int .i64 0, .string ⟨#[]⟩, .string ⟨#[]⟩, .bool false, .int .i64 0, .slice none 0 0, .slice none 0 0, .slice none 0 0]) := Lib.hid (by rw [hw1]; exact n2)
  have HSZ : Hid (w1.heap.size = w.heap.size + 1 + 1) := Lib.hid (by rw [hw1, World.size_alloc, World.size_alloc])
  have HW1 := Lib.hid hw1
  obtain ⟨q0, q1, q2, q3, q4, q5, q6, q7⟩ := HN1.out.cells
  obtain ⟨l, hl⟩ := bool_or (0 < lv ∧ SoundP lv nx lo hi la ks.length vs.length cs.length ks cs 64)
  have HIS := Lib.hid (isInner_of lv nx lo hi la ak av ac ks.length ck vs.length cv cs.length cc ks vs cs l w1 (hN.keep HB.out) hf hl)
  have HND := Lib.hid hN
  have HFT := Lib.hid hf
  have HKK := Lib.hid hk
  have HLL := Lib.hid hl
  have HBB := Lib.hid hb
  clear hN hf hk hb hl hw1 n1 n2 hB
  go_enter Try.func13, Try.ntmps13
  go_wp2_with fail
  rw [← HW1.out]
  refine HIS.out.mono ?_
  rintro e w2 ⟨rfl, hb2⟩
  have HB2 := Lib.hid hb2
  have HRB := Lib.hid (HN2.out.below HB2.out)
  have HBW := Lib.hid (HB.out.trans (HB2.out.mono HB.out.size))
  clear hb2 q0 q1 q2 q3 q4 q5 q6 q7
  cases l with
  | false =>
    have HF : Hid (b = false) := Lib.hid (bool_no HBB.out (fun h => by have := HLL.out.2 h.1; cases this))
    obtain ⟨t0, t1, t2, t3, t4, t5, t6, t7⟩ := (HRB.out).cells
    have f0 := (HRB.out).frozen 0
    have f1 := (HRB.out).frozen 1
    have f2 := (HRB.out).frozen 2
    have f3 := (HRB.out).frozen 3
    have f4 := (HRB.out).frozen 4
    have f5 := (HRB.out).frozen 5
    have f6 := (HRB.out).frozen 6
    have f7 := (HRB.out).frozen 7
    go_wp2
    refine bodyPost_ret (v := .tuple #[.agg #[.int .i64 0, .string ⟨#[]⟩, .string ⟨#[]⟩, .bool false, .int .i64 0, .slice none 0 0, .slice none 0 0, .slice none 0 0], .bool false]) (by simp [results, Try.results13, go_sem, *]) rfl ?_
    rw [HF.out, Nod.ior_no]
    exact igave_none (wr5_below (w.heap.size + 1) w.heap.size (by omega) [(0, _), (1, _), (2, _), (3, _), (4, _), (5, _), (6, _), (7, _)] w w2 HBW.out)
  | true =>
    have HS := Lib.hid (HLL.out.1 rfl)
    have hlv0 : lv ≠ 0 := by have := HS.out.1; omega
    have HLE := Lib.hid (HS.out.2.entries.inner hlv0)
    have HRI := Lib.hid HS.out.2.keys.rise
    have hks64 : ks.length ≤ 64 := by have := HS.out.2.keys.many; omega
    have HEN := Lib.hid (ient_any lv nx lo hi la ak av ac ck cv cc ks vs cs)
    have HFI := Lib.hid (fun W h => find_any (.slice ak ks.length ck) low ks W h HKK.out HFT.out.ks (by have := HFT.out.n; omega) HRI.out)
    have HEL := Lib.hid (ents_len HLE.out.1)
    obtain ⟨q0, q1, q2, q3, q4, q5, q6, q7⟩ := (HN1.out.below HB2.out).cells
    go_wp2_with fail
    refine (HEN.out w2 (HND.out.keep HBW.out) HLE.out.1 (by have := HFT.out.n; omega)).mono ?_
    rintro e w3 ⟨g, rfl, hg, hrow, hb3⟩
    have HRW := Lib.hid hrow
    have HB3 := Lib.hid (HB2.out.trans (hb3.mono HB2.out.size))
    have HBV := Lib.hid (HB.out.trans (HB3.out.mono HB.out.size))
    have hgw : w1.heap.size ≤ g := Nat.le_trans HB2.out.size hg
    clear hrow hb3 hg q0 q1 q2 q3 q4 q5 q6 q7 HEN
    obtain ⟨q0, q1, q2, q3, q4, q5, q6, q7⟩ := (HN1.out.below HB3.out).cells
    go_wp2_with fail
    refine (HFI.out w3 (HND.out.keep HBV.out).k).mono ?_
    rintro e w4 ⟨at_, is, rfl, hE, hi, hb4⟩
    obtain rfl : at_ = placeF ks low := hE.one (edge_place HRI.out low)
    have HB4 := Lib.hid (HB3.out.trans (hb4.mono HB3.out.size))
    have HRW4 : Hid (RowE w4 g (ents ks cs)) := Lib.hid (HRW.out.keep hb4)
    have HBX := Lib.hid (HB.out.trans (HB4.out.mono HB.out.size))
    have HRR := Lib.hid (HN2.out.below HB4.out)
    have hle : placeF ks low ≤ ks.length := hE.1
    clear hE hi hb4 HRW q0 q1 q2 q3 q4 q5 q6 q7 HFI
    obtain ⟨a, ha⟩ : ∃ a, a = placeF ks low := ⟨_, rfl⟩
    have hle2 : a ≤ ks.length := by rw [ha]; exact hle
    obtain ⟨es, hes⟩ : ∃ es, es = ents ks cs := ⟨_, rfl⟩
    have hel : es.length = ks.length := by rw [hes]; exact HEL.out
    obtain ⟨es2, hes2⟩ : ∃ es2, es2 = postE es a low kid := ⟨_, rfl⟩
    have hk2 : es2.map (·.1) = insF ks a low := by rw [hes2, hes]; exact postE_keys HLE.out.1 a low kid
    have hc2 : es2.map (·.2) = insF cs a kid := by rw [hes2, hes]; exact postE_kids HLE.out.1 a low kid
    have hl2 : es2.length = ks.length + 1 := by rw [hes2, postE_len (by omega), hel]
    have hlk : (insF ks a low).length = es2.length := by rw [← hk2, List.length_map]
    have hlc : (insF cs a kid).length = es2.length := by rw [← hc2, List.length_map]
    have hfst : (nte es2 0).1 = nth (insF ks a low) 0 := by
      rw [nte_eq (by omega), ← hk2, nth_eq (by rw [List.length_map]; omega), List.getElem_map]
    have hpost : Nod.post ⟨lv, nx, lo, hi, la, ks, vs, cs⟩ low kid = ⟨lv, nx, lo, hi, la, insF ks a low, [], insF cs a kid⟩ := by unfold Nod.post; simp only; rw [← ha]
    have hszs : ∀ x ∈ insF ks a low, x.size ≤ 140737488355328 := by
      intro x hx
      unfold insF at hx
      rcases List.mem_append.1 hx with h | h
      · exact HFT.out.ks x (List.mem_of_mem_take h)
      · rcases List.mem_cons.1 h with rfl | h
        · exact HKK.out
        · exact HFT.out.ks x (List.mem_of_mem_drop h)
    have hfit : Fit (nte es2 0).1 hi (es2.map (·.1)) es2.length 0 es2.length := ⟨by rw [hfst, nth_eq (by omega)]; exact hszs _ (List.getElem_mem _), HFT.out.hi, by rw [hk2]; exact hszs, by omega⟩
    have hbh : b = true ↔ (nte es2 0).1 = lo ∧ (4 ≤ fan ∧ fan ≤ 64) ∧ SoundP lv nx (nte es2 0).1 hi la es2.length 0 es2.length (es2.map (·.1)) (es2.map (·.2)) fan := by
      rw [HBB.out]
      unfold Nod.PostP
      rw [hpost]
      unfold Nod.Sound
      simp only
      rw [hk2, hc2, hlk, hlc]
      constructor
      · rintro ⟨_, h1, h2⟩
        have h3 := (h2.entries.inner hlv0).2.2.2.1
        have h4 : (nte es2 0).1 = lo := by rw [hfst]; exact h3
        rw [h4]
        exact ⟨rfl, h1, h2⟩
      · rintro ⟨h0, h1, h2⟩
        rw [h0] at h2
        exact ⟨HS.out, h1, h2⟩
    have HOR : Hid (Nod.or b ⟨lv, nx, (nte es2 0).1, hi, la, es2.map (·.1), [], es2.map (·.2)⟩ = Nod.or b (Nod.post ⟨lv, nx, lo, hi, la, ks, vs, cs⟩ low kid)) := Lib.hid (by
      cases b with
      | false => rfl
      | true =>
        rw [hpost, (hbh.1 rfl).1, hk2, hc2])
    have HHV := Lib.hid (fun W eo en ec gF gf (hR : RdE W (.slice eo en ec) es2) hF hG => having_of lv nx lo hi la ak av ac ck cv cc ks vs cs eo en ec es2 gF gf lo fan b W hR (by omega) (by omega) hF hG hfit hbh)
    rw [HOR.out] at HHV
    have HMB := Lib.hid (fun W => mayBe_any lv nx lo hi la ak av ac ks.length ck vs.length cv cs.length cc fan W)
    have HP2 := Lib.hid (show ecells es2 = (ecells (es.take a) ++ [.string low, .int .i64 kid]) ++ ecells (es.drop a) by rw [hes2]; exact postE_cells es a low kid)
    have HL2 := Lib.hid hl2
    have HTL : Hid ((ecells (es.take a)).length = a * 2) := Lib.hid (by rw [ecells_len, List.length_take]; omega)
    have HDL : Hid ((ecells (es.drop a)).length = (ks.length - a) * 2) := Lib.hid (by rw [ecells_len, List.length_drop]; omega)
    have HLEA := Lib.hid (show a ≤ es.length by omega)
    rw [← hes] at HRW4
    rw [← ha]
    obtain ⟨nn, hnn⟩ : ∃ nn, nn = Nod.or b (Nod.post ⟨lv, nx, lo, hi, la, ks, vs, cs⟩ low kid) := ⟨_, rfl⟩
    rw [← hnn] at HHV
    have HNN := Lib.hid hnn
    clear hnn
    have HC : Hid (∀ W, Below w4.heap.size w4 W → (W.cell? ⟨w.heap.size, 0, none⟩ = some (.int .i64 lv) ∧ W.cell? ⟨w.heap.size, 1, none⟩ = some (.string lo) ∧ W.cell? ⟨w.heap.size, 2, none⟩ = some (.string hi) ∧ W.cell? ⟨w.heap.size, 3, none⟩ = some (.bool la) ∧ W.cell? ⟨w.heap.size, 4, none⟩ = some (.int .i64 nx) ∧ W.cell? ⟨w.heap.size, 5, none⟩ = some (.slice ak ks.length ck) ∧ W.cell? ⟨w.heap.size, 6, none⟩ = some (.slice av vs.length cv) ∧ W.cell? ⟨w.heap.size, 7, none⟩ = some (.slice ac cs.length cc))) := Lib.hid (fun W h => ((HN1.out.below HB4.out).below h).cells)
    have hz4 : w.heap.size + 1 < w4.heap.size := lt_of_block HRR.out
    obtain ⟨i0, hi0, hz0, hz1, hz3⟩ := info_parts infoEntry
    have HI := Lib.hid (show _ ∧ _ ∧ _ ∧ _ from ⟨hi0, hz0, hz1, hz3⟩)
    have hB1 : Below w4.heap.size w4 (w4.alloc (.cells #[.string low, .int .i64 kid] 101)).drew := ((Below.refl w4.heap.size w4).alloc (Nat.le_refl _) _).drew
    have HB1 := Lib.hid hB1
    have hsz1 : w4.heap.size ≤ (w4.alloc (.cells #[.string low, .int .i64 kid] 101)).drew.heap.size := hB1.size
    have HTK := Lib.hid (RowE.takes (HRW4.out.keep hB1) a (by omega))
    have HNW := Lib.hid (news_twoD w4 low kid 101)
    have hS0 := HC.out w4.drew (Below.refl _ _).drew
    have hS1 := HC.out _ hB1
    have hai : (a : Int) ≤ ks.length := by omega
    clear ha hle hes hel hes2 hk2 hc2 hl2 hlk hlc hfst hpost hszs hfit hbh hi0 hz0 hz1 hz3 HOR HEL hB1
    have hcase : a < ks.length ∨ a = ks.length := by omega
    rcases hcase with hlt | hlt
    case inl =>
      have g1 : (a : Int) < ks.length := by omega
      go_upto_region 5 with fail
      go_region_held_law (fun W => (W.cell? ⟨w.heap.size, 0, none⟩ = some (.int .i64 lv) ∧ W.cell? ⟨w.heap.size, 1, none⟩ = some (.string lo) ∧ W.cell? ⟨w.heap.size, 2, none⟩ = some (.string hi) ∧ W.cell? ⟨w.heap.size, 3, none⟩ = some (.bool la) ∧ W.cell? ⟨w.heap.size, 4, none⟩ = some (.int .i64 nx) ∧ W.cell? ⟨w.heap.size, 5, none⟩ = some (.slice ak ks.length ck) ∧ W.cell? ⟨w.heap.size, 6, none⟩ = some (.slice av vs.length cv) ∧ W.cell? ⟨w.heap.size, 7, none⟩ = some (.slice ac cs.length cc)))
        (first | (with_reducible exact hS0) | (with_reducible exact hS1) | (with_reducible exact hS5) | (with_reducible exact hS6) | (with_reducible exact hS7) | (with_reducible exact hS8) | (with_reducible exact (NB.ifar8 ((HN1.out.below HB4.out).below HB8.out) (by omega) _ _ _ _ _ _ _ _).cells))
        (first
          | (refine step_append_grows rfl (.tmp 30) (.tmp 34) 96 rfl 101 i0 (.agg #[.string ⟨#[]⟩, .int .i64 0]) 2 24 Try.underlying96 HI.out.1 HI.out.2.1 HI.out.2.2.1 HI.out.2.2.2 rfl (by decide) (some ⟨g, 0, none⟩) a a (ecells (es.take a)) (by simp [Act.eval]) (fun h => by cases h) HTL.out HTK.out ⟨w4.heap.size, 0, none⟩ 1 1 [.string low, .int .i64 kid] (by simp [Act.eval]) rfl HNW.out (ones_e _ _) (by omega) (by unfold maxLen; omega) (by omega) ?_; intro v5 w5 hown5 hgrow5; have HO5 := Lib.hid (own_base hown5 hsz1); have HB5 := Lib.hid (HB1.out.grown hgrow5 hsz1 (fun _ h => by cases h)); have hS5 := HC.out w5 HB5.out; obtain ⟨o5, c5, rfl⟩ := row_form2 hown5; have HD5 := Lib.hid (RowE.drops (HRW4.out.keep HB5.out) a HLEA.out); have hz5 := HB5.out.size; clear hown5 hgrow5)
          | (refine step_append_many rfl (.tmp 35) (.tmp 38) 96 rfl w4.heap.size 101 i0 (.agg #[.string ⟨#[]⟩, .int .i64 0]) 2 24 Try.underlying96 HI.out.1 HI.out.2.1 HI.out.2.2.1 HI.out.2.2.2 rfl (by decide) (.slice o5 (a + 1) c5) (a + 1) (ecells (es.take a) ++ [.string low, .int .i64 kid]) (by simp [Act.eval, Act.put]) HO5.out ⟨g, a * 2, none⟩ (ks.length - a) (ks.length - a) (ecells (es.drop a)) (by simp [Act.eval, Act.put]; omega) HDL.out HD5.out (ecells_ones _) (by unfold maxLen; omega) (by omega) hz5 ?_; intro v6 w6 hown6 hgrow6; have HB6 := Lib.hid (HB5.out.grown hgrow6 hz5 (fun k hk => (HO5.out.lt k hk).1)); have hS6 := HC.out w6 HB6.out; obtain ⟨o6, c6, rfl⟩ := row_form2 hown6; have HR6 : Hid (RdE w6 _ es2) := Lib.hid (rdE_of (by rw [HP2.out]; exact hown6) (by have := HL2.out; omega)); clear hown6 hgrow6)
          | (go_at_call 64; refine (HMB.out _).mono ?_; rintro e w7 ⟨gF, gf, rfl, hF7, hG7, hb7⟩; have HB7 := Lib.hid (HB6.out.trans (hb7.mono HB6.out.size)); have hS7 := HC.out w7 HB7.out; have HR7 := Lib.hid (HR6.out.keep hb7); have HF7 := Lib.hid hF7; have HG7 := Lib.hid hG7; clear hF7 hG7 hb7)
          | (go_at_call 63; refine (HHV.out _ _ _ _ _ _ HR7.out HF7.out HG7.out).mono ?_; rintro e w8 ⟨ak8, av8, ac8, ck8, cv8, cc8, rfl, hnd8, hb8, hf8⟩; have H8 : Hid (GaveN w7 w8 (.returned (.tuple #[.agg #[.int .i64 nn.lv, .string nn.lo, .string nn.hi, .bool nn.la, .int .i64 nn.nx, .slice ak8 nn.ks.length ck8, .slice av8 nn.vs.length cv8, .slice ac8 nn.cs.length cc8], .bool b])) b nn) := Lib.hid ⟨ak8, av8, ac8, ck8, cv8, cc8, rfl, hnd8, hb8, hf8⟩; have HB8 := Lib.hid (HB7.out.trans (hb8.mono HB7.out.size)); have hS8 := HC.out w8 HB8.out; have HR8 := Lib.hid (HRR.out.below HB8.out); obtain ⟨t0, t1, t2, t3, t4, t5, t6, t7⟩ := HR8.out.cells; have f0 := HR8.out.frozen 0; have f1 := HR8.out.frozen 1; have f2 := HR8.out.frozen 2; have f3 := HR8.out.frozen 3; have f4 := HR8.out.frozen 4; have f5 := HR8.out.frozen 5; have f6 := HR8.out.frozen 6; have f7 := HR8.out.frozen 7; clear hnd8 hb8 hf8))
      clear hS0 hS1 hS5 hS6 hS7 hS8
      go_wp2
      refine bodyPost_ret (v := .tuple #[.agg #[.int .i64 nn.lv, .string nn.lo, .string nn.hi, .bool nn.la, .int .i64 nn.nx, .slice ak8 nn.ks.length ck8, .slice av8 nn.vs.length cv8, .slice ac8 nn.cs.length cc8], .bool b]) (by simp [results, Try.results13, go_sem, *]) rfl ?_
      have hfin := gave_stored H8.out (HBX.out.trans (HB7.out.mono HBX.out.size)) (by omega) (Nat.lt_of_lt_of_le hz4 HB7.out.size) [(0, .int .i64 nn.lv), (1, .string nn.lo), (2, .string nn.hi), (3, .bool nn.la), (4, .int .i64 nn.nx), (5, .slice ak8 nn.ks.length ck8), (6, .slice av8 nn.vs.length cv8), (7, .slice ac8 nn.cs.length cc8)]
      simp only [wr5] at hfin
      rw [← HNN.out]
      exact hfin
    case inr =>
      subst hlt
      have HDN : Hid (ecells (es.drop ks.length) = []) := Lib.hid (List.eq_nil_of_length_eq_zero (by rw [HDL.out]; omega))
      go_upto_region 5 with fail
      go_region_held_law (fun W => (W.cell? ⟨w.heap.size, 0, none⟩ = some (.int .i64 lv) ∧ W.cell? ⟨w.heap.size, 1, none⟩ = some (.string lo) ∧ W.cell? ⟨w.heap.size, 2, none⟩ = some (.string hi) ∧ W.cell? ⟨w.heap.size, 3, none⟩ = some (.bool la) ∧ W.cell? ⟨w.heap.size, 4, none⟩ = some (.int .i64 nx) ∧ W.cell? ⟨w.heap.size, 5, none⟩ = some (.slice ak ks.length ck) ∧ W.cell? ⟨w.heap.size, 6, none⟩ = some (.slice av vs.length cv) ∧ W.cell? ⟨w.heap.size, 7, none⟩ = some (.slice ac cs.length cc)))
        (first | (with_reducible exact hS0) | (with_reducible exact hS1) | (with_reducible exact hS5) | (with_reducible exact hS6) | (with_reducible exact hS7) | (with_reducible exact hS8) | (with_reducible exact (NB.ifar8 ((HN1.out.below HB4.out).below HB8.out) (by omega) _ _ _ _ _ _ _ _).cells))
        (first
          | (refine step_append_grows rfl (.tmp 30) (.tmp 34) 96 rfl 101 i0 (.agg #[.string ⟨#[]⟩, .int .i64 0]) 2 24 Try.underlying96 HI.out.1 HI.out.2.1 HI.out.2.2.1 HI.out.2.2.2 rfl (by decide) (some ⟨g, 0, none⟩) ks.length ks.length (ecells (es.take ks.length)) (by simp [Act.eval]) (fun h => by cases h) HTL.out HTK.out ⟨w4.heap.size, 0, none⟩ 1 1 [.string low, .int .i64 kid] (by simp [Act.eval]) rfl HNW.out (ones_e _ _) (by omega) (by unfold maxLen; omega) (by omega) ?_; intro v5 w5 hown5 hgrow5; have HO5 := Lib.hid (own_base hown5 hsz1); have HB5 := Lib.hid (HB1.out.grown hgrow5 hsz1 (fun _ h => by cases h)); have hS5 := HC.out w5 HB5.out; obtain ⟨o5, c5, rfl⟩ := row_form2 hown5; have hz5 := HB5.out.size; clear hown5 hgrow5)
          | (refine step_append_many rfl (.tmp 35) (.tmp 38) 96 rfl w4.heap.size 101 i0 (.agg #[.string ⟨#[]⟩, .int .i64 0]) 2 24 Try.underlying96 HI.out.1 HI.out.2.1 HI.out.2.2.1 HI.out.2.2.2 rfl (by decide) (.slice o5 (ks.length + 1) c5) (ks.length + 1) (ecells (es.take ks.length) ++ [.string low, .int .i64 kid]) (by simp [Act.eval, Act.put]) HO5.out ⟨g, 0, none⟩ 0 0 [] (by simp [Act.eval, Act.put]) rfl (fun j u h => by simp at h) (fun u h => by cases h) (by unfold maxLen; omega) (by omega) hz5 ?_; intro v6 w6 hown6 hgrow6; have HB6 := Lib.hid (HB5.out.grown hgrow6 hz5 (fun k hk => (HO5.out.lt k hk).1)); have hS6 := HC.out w6 HB6.out; obtain ⟨o6, c6, rfl⟩ := row_form2 hown6; have HR6 : Hid (RdE w6 _ es2) := Lib.hid (rdE_of (by rw [HP2.out, HDN.out]; exact hown6) (by have := HL2.out; omega)); clear hown6 hgrow6)
          | (go_at_call 64; refine (HMB.out _).mono ?_; rintro e w7 ⟨gF, gf, rfl, hF7, hG7, hb7⟩; have HB7 := Lib.hid (HB6.out.trans (hb7.mono HB6.out.size)); have hS7 := HC.out w7 HB7.out; have HR7 := Lib.hid (HR6.out.keep hb7); have HF7 := Lib.hid hF7; have HG7 := Lib.hid hG7; clear hF7 hG7 hb7)
          | (go_at_call 63; refine (HHV.out _ _ _ _ _ _ HR7.out HF7.out HG7.out).mono ?_; rintro e w8 ⟨ak8, av8, ac8, ck8, cv8, cc8, rfl, hnd8, hb8, hf8⟩; have H8 : Hid (GaveN w7 w8 (.returned (.tuple #[.agg #[.int .i64 nn.lv, .string nn.lo, .string nn.hi, .bool nn.la, .int .i64 nn.nx, .slice ak8 nn.ks.length ck8, .slice av8 nn.vs.length cv8, .slice ac8 nn.cs.length cc8], .bool b])) b nn) := Lib.hid ⟨ak8, av8, ac8, ck8, cv8, cc8, rfl, hnd8, hb8, hf8⟩; have HB8 := Lib.hid (HB7.out.trans (hb8.mono HB7.out.size)); have hS8 := HC.out w8 HB8.out; have HR8 := Lib.hid (HRR.out.below HB8.out); obtain ⟨t0, t1, t2, t3, t4, t5, t6, t7⟩ := HR8.out.cells; have f0 := HR8.out.frozen 0; have f1 := HR8.out.frozen 1; have f2 := HR8.out.frozen 2; have f3 := HR8.out.frozen 3; have f4 := HR8.out.frozen 4; have f5 := HR8.out.frozen 5; have f6 := HR8.out.frozen 6; have f7 := HR8.out.frozen 7; clear hnd8 hb8 hf8))
      clear hS0 hS1 hS5 hS6 hS7 hS8
      go_wp2
      refine bodyPost_ret (v := .tuple #[.agg #[.int .i64 nn.lv, .string nn.lo, .string nn.hi, .bool nn.la, .int .i64 nn.nx, .slice ak8 nn.ks.length ck8, .slice av8 nn.vs.length cv8, .slice ac8 nn.cs.length cc8], .bool b]) (by simp [results, Try.results13, go_sem, *]) rfl ?_
      have hfin := gave_stored H8.out (HBX.out.trans (HB7.out.mono HBX.out.size)) (by omega) (Nat.lt_of_lt_of_le hz4 HB7.out.size) [(0, .int .i64 nn.lv), (1, .string nn.lo), (2, .string nn.hi), (3, .bool nn.la), (4, .int .i64 nn.nx), (5, .slice ak8 nn.ks.length ck8), (6, .slice av8 nn.vs.length cv8), (7, .slice ac8 nn.cs.length cc8)]
      simp only [wr5] at hfin
      rw [← HNN.out]
      exact hfin
end Go.Proofs.Ytjojfkddgdpnlaa
