/- bowerref05.Cut of a list, of any item. Conditions: the item's numbers are numbers; at most 2^30 items and bytes. -/
import Derived.Test.YtbghemndcndhpaaDoorBoxRows
import Derived.Deep.RegionLaw
import Derived.Deep.RegionHeldLaw
namespace Go.Proofs.YtbghemndcndhpaaDoor
open Go.RowKit

/-- The operation append, as one step of a region: it may grow, and where the new row lies is told. -/
theorem step_append_sep {P : Program} {ops : Array Oper} {o : Oper} {a : Act} {w : World} {K : Act → World → Prop} {Q : Exit → Act → World → Prop} {E : Prop}
    (hg : o.guard = none) (s x : Operand) (t : TypeId) (hop : o.op = Op.call { callee := Callee.builtin Builtin.append, args := #[s, x], argTypes := #[t, t] })
    (base : Nat) (e : TypeId) (i : TypeInfo) (z : Value) (size bytes : Nat) (h1 : P.underlying t = some (.slice e)) (h2 : P.info? e = some i) (h3 : i.zero = some z) (h4 : i.size = size) (h5 : i.bytes = bytes) (h6 : z.cells.size = size) (h7 : 0 < size)
    (v : Value) (n : Nat) (xs : List Value) (hs : a.eval s = v) (hown : w.ownsRow base e size v n xs)
    (ad : Addr) (m c : Nat) (news : List Value) (hx : a.eval x = .slice (some ad) m c) (hn : news.length = m * size) (hc : ∀ j u, news[j]? = some u → w.cell? (ad.add j) = some u) (h1c : ∀ u ∈ news, u.oneCell' = true)
    (b1 : n + m ≤ maxLen) (b2 : (n + m) * bytes ≤ 140737488355328) (hbase : base ≤ w.heap.size)
    (hK : ∀ v' w', w'.ownsRow base e size v' (n + m) (xs ++ news) → w.grownBy w' v.ownBlock → Sep w v v' → K (a.put o.dst v') w') :
    if Region.wanted o (yielded ops a.tmps) = true then Oper.wp P o a w K Q else E := by
  have hw : Region.wanted o (yielded ops a.tmps) = true := by simp [Region.wanted, hg]
  rw [if_pos hw]
  obtain ⟨v', w', hrun, r1, r2, r3⟩ := run_append_sep (P := P) w base t o.type e i z size bytes h1 h2 h3 h4 h5 h6 h7 v n xs hown ad m c news hn hc h1c b1 b2 hbase
  unfold Oper.wp
  simp [execOp, hop, resolve, invoke, builtin, hs, hx, hrun, Result.andThen]
  exact hK v' w' r1 r2 r3

theorem Sits.form4 {S : Nat → Prop} {w : World} {y : Itm} {u : Value} (h : Sits S w y u) : ∃ k n s ao len c, u = .agg #[.int .i64 k, .int .u64 n, .string s, .slice ao len c] := by
  obtain ⟨k, n, s, l⟩ := y
  rw [Sits] at h
  obtain ⟨ao, c, rfl, _⟩ := h
  exact ⟨_, _, _, _, _, _, rfl⟩

/-- The state at a round's head. -/
def CutAt (S : Nat → Prop) (w wr : World) (n : Int) (s : ByteArray) (ls so : Value) (l : List Itm) (i : Nat) : Prop :=
  Four wr w.heap.size 4 n s ls ∧ Four wr (w.heap.size + 1) 0 0 ⟨#[]⟩ (.slice none 0 0) ∧ Four wr (w.heap.size + 1 + 1) 4 0 ⟨#[]⟩ so ∧ CutRow S (w.heap.size + 3) wr so l i ∧ Below w.heap.size w wr ∧ w.heap.size + 3 ≤ wr.heap.size

theorem cells4q (w : World) (a b c d : Value) (t : TypeId) : ∀ j u, [a, b, c, d][j]? = some u → (w.alloc (.cells #[a, b, c, d] t)).cell? ((⟨w.heap.size, 0, none⟩ : Addr).add j) = some u := by
  intro j u h
  have hj : j < [a, b, c, d].length := (List.getElem?_eq_some_iff.1 h).1
  have e : (⟨w.heap.size, 0, none⟩ : Addr).add j = ⟨w.heap.size, 0 + j, none⟩ := by
    by_cases h0 : j = 0
    · subst h0; simp [Addr.add]
    · simp [Addr.add, h0]
  rw [e, cells4 w a b c d t j hj, ← h, List.getElem?_eq_getElem hj]

theorem ones4 (k : IntKind) (a : Int) (k2 : IntKind) (b : Int) (s : ByteArray) (ao : Option Addr) (n c : Nat) : ∀ u ∈ [Value.int k a, Value.int k2 b, Value.string s, Value.slice ao n c], u.oneCell' = true := by
  intro u hu; simp at hu; rcases hu with rfl | rfl | rfl | rfl <;> rfl

theorem row_form4 {w : World} {B : Nat} {e : TypeId} {v : Value} {n : Nat} {xs : List Value} (h : w.ownsRow B e 4 v n xs) : ∃ ao c, v = .slice ao n c := by
  rcases h.2 with ⟨rfl, hn⟩ | ⟨g, cap, cur, rfl, _⟩
  · exact ⟨none, 0, by rw [hn]⟩
  · exact ⟨_, _, rfl⟩

theorem Four.at_ {w w' : World} {g : Nat} {k n : Int} {s : ByteArray} {u : Value} (h : Four w g k n s u) (e : w'.heap[g]? = w.heap[g]?) : Four w' g k n s u := by
  unfold Four at *
  rw [e]
  exact h

theorem heap_set_other {w : World} {a : Addr} {v : Value} {k : Nat} (h : k ≠ a.block) : (w.setCell a v).heap[k]? = w.heap[k]? := by
  show (w.heap.modify _ _)[k]? = _
  rw [Array.getElem?_modify]
  simp [Ne.symm h]

theorem crow_same {S : Nat → Prop} {B : Nat} {w w' : World} {so : Value} {l : List Itm} {i : Nat} (h : CutRow S B w so l i) (hk : ∀ k, S k ∨ B ≤ k → w'.heap[k]? = w.heap[k]?) : CutRow S B w' so l i := by
  obtain ⟨ys, qs, h1, h2, h3, h4, h5⟩ := h
  refine ⟨ys, qs, h1, h2, ⟨h3.1, ?_⟩, fun j g1 g2 => Sits.keep (fun k hk2 _ => ⟨hk2, hk k (by rcases hk2 with h | h; exact Or.inl h; exact Or.inr h.1)⟩) _ _ (h4 j g1 g2), h5⟩
  rcases h3.2 with hn | ⟨g, cap, cur, rfl, hbg, hg, rest⟩
  · exact Or.inl hn
  · exact Or.inr ⟨g, cap, cur, rfl, hbg, by rw [hk g (Or.inr hbg)]; exact hg, rest⟩

theorem cutAt_add {S : Nat → Prop} {w wr w1 w2 : World} {n : Int} {s : ByteArray} {ls so v2 : Value} {l : List Itm} {i : Nat} {y : Itm} {q : Q4} {ys : List Itm} {qs : List Q4} (h : CutAt S w wr n s ls so l i)
    (h1 : ys.length = i) (h2 : qs.length = i) (h3r : wr.ownsRow (w.heap.size + 3) 25 4 so i (qcells qs))
    (h4r : ∀ j (h1 : j < ys.length) (h2 : j < qs.length), Sits (fun k => S k ∨ (w.heap.size + 3 ≤ k ∧ so.ownBlock ≠ some k)) wr ys[j] (q4 qs[j]))
    (h5 : ∀ j (h : j < l.length) (h1 : j < ys.length), bxI ys[j] = cutB (bxI l[j]) ∧ vI ys[j] ∧ okI ys[j] ∧ wI ys[j] ≤ wI l[j])
    (hi : i < l.length) (hS : ∀ k, S k → k < w.heap.size) (hb1 : Below wr.heap.size wr w1) (hu : Sits (fun k => S k ∨ wr.heap.size ≤ k) w1 y (q4 q))
    (hy : bxI y = cutB (bxI l[i]) ∧ vI y ∧ okI y ∧ wI y ≤ wI l[i]) (ob : Obj)
    (hown : w2.ownsRow (w.heap.size + 3) 25 4 v2 (i + 1) (qcells qs ++ qrow q)) (hg : (w1.alloc ob).grownBy w2 so.ownBlock) (hsep : Sep (w1.alloc ob) so v2) :
    CutAt S w (w2.setCell ⟨w.heap.size + 1 + 1, 3, none⟩ v2) n s ls v2 l (i + 1) := by
  obtain ⟨f0, f1, f2, _, hbw, hsz⟩ := h
  have hlo : ∀ k, so.ownBlock = some k → w.heap.size + 3 ≤ k := fun k e => (h3r.lt k e).1
  have hsz1 := hb1.size
  have hblk : ∀ k, k < w1.heap.size → so.ownBlock ≠ some k → w2.heap[k]? = w1.heap[k]? := fun k hk h1 => (hg.block k (by simp; omega) (fun e => h1 e.symm)).trans (Below.heap_alloc _ _ _ hk)
  have hbl2 : ∀ k, k < w.heap.size + 3 → w2.heap[k]? = wr.heap[k]? := fun k hk => (hblk k (by omega) (fun e => by have := hlo k e; omega)).trans (hb1.block k (by omega))
  have hsz2 : w1.heap.size ≤ w2.heap.size := by have := hg.size; simp at this; omega
  have hrow := crow_add h1 h2 h3r h4r h5 hi (fun k hk => Nat.lt_of_lt_of_le (hS k hk) (by omega)) hb1 hu hy hown hblk (by
    rcases hsep with e | ⟨g, e, hge⟩
    · exact Or.inl e
    · simp at hge
      exact Or.inr ⟨g, e, by omega⟩) hsz
  refine ⟨f0.at_ ((heap_set_other (by simp; omega)).trans (hbl2 _ (by omega))), f1.at_ ((heap_set_other (by simp)).trans (hbl2 _ (by omega))), (f2.at_ (hbl2 _ (by omega))).set3, crow_same hrow (fun k hk => heap_set_other (by
    rcases hk with hk | hk
    · have := hS k hk; simp; omega
    · simp; omega)), ?_, by simp; omega⟩
  exact (((hbw.trans (hb1.mono hbw.size)).alloc (by omega) ob).grown hg (by simp; omega) (fun k hk => by have := hlo k hk; omega)).setCell (by simp; omega) _

theorem crow_own {B : Nat} {w w' : World} {v : Value} {i : Nat} {xs : List Value} (h : w.ownsRow B 25 4 v i xs) (hb : Below w.heap.size w w') : w'.ownsRow B 25 4 v i xs := by
  refine ⟨h.1, ?_⟩
  rcases h.2 with hn | ⟨g, cap, cur, rfl, hbg, hg, rest⟩
  · exact Or.inl hn
  · exact Or.inr ⟨g, cap, cur, rfl, hbg, by rw [hb.block g (lt_of_block hg)]; exact hg, rest⟩

theorem cutAt_drew {S : Nat → Prop} {w wr : World} {n : Int} {s : ByteArray} {ls so : Value} {l : List Itm} {i : Nat} (h : CutAt S w wr n s ls so l i) : CutAt S w wr.drew n s ls so l i :=
  ⟨h.1.at_ rfl, h.2.1.at_ rfl, h.2.2.1.at_ rfl, crow_same h.2.2.2.1 (fun _ _ => rfl), h.2.2.2.2.1.drew, h.2.2.2.2.2⟩

theorem cutAt_out {S : Nat → Prop} {w wr w1 w2 : World} {n : Int} {s : ByteArray} {ls so : Value} {l : List Itm} {i : Nat} {xs : List Value} (h : CutAt S w wr n s ls so l i) (h3r : wr.ownsRow (w.heap.size + 3) 25 4 so i xs) (hb1 : Below wr.heap.size wr w1) (ob : Obj) (hg : (w1.alloc ob).grownBy w2 so.ownBlock) : Four w2 (w.heap.size + 1 + 1) 4 0 ⟨#[]⟩ so := by
  obtain ⟨_, _, f2, _, _, hsz⟩ := h
  have hsz1 := hb1.size
  exact f2.at_ (((hg.block _ (by simp; omega) (fun e => by have := (h3r.lt _ e.symm).1; omega)).trans (Below.heap_alloc _ _ _ (by omega))).trans (hb1.block _ (by omega)))

theorem info4z : (Tryd.prog.info? 25).map (fun i => (i.zero, i.size, i.bytes)) = some (some (.agg #[.int .i64 0, .int .u64 0, .string ⟨#[]⟩, .slice none 0 0]), 4, 56) := by kernel_rfl

set_option maxHeartbeats 8000000 in
set_option maxRecDepth 100000 in
theorem cut_list (n : Int) (s : ByteArray) (l : List Itm) (ih : ∀ x ∈ l, CutOk x) : CutOk (.mk 4 n s l) := by
  intro S' v w hs hok hw
  obtain ⟨S, hSd⟩ : ∃ S : Nat → Prop, S = fun k => S' k ∧ k < w.heap.size := ⟨_, rfl⟩
  have hs := Sits.mono (T := S) hs (fun k hk hlt => by rw [hSd]; exact ⟨hk, hlt⟩)
  have HS : Hid (∀ k, S k → S' k ∧ k < w.heap.size) := Lib.hid (fun k hk => by rw [hSd] at hk; exact hk)
  clear hSd
  rw [Sits] at hs
  obtain ⟨ao, c, rfl, hc, hsl⟩ := hs
  rw [okI, okIs_iff] at hok
  have HXW : Hid (wI (.mk 4 n s l) = 1 + s.size + wIs l) := Lib.hid (by rw [wI])
  rw [wI] at hw
  obtain ⟨i0, hi0, hz0, hz1, hz2⟩ := info_parts info4z
  have HI := Lib.hid (show _ ∧ _ ∧ _ ∧ _ from ⟨hi0, hz0, hz1, hz2⟩)
  obtain ⟨N, hN⟩ : ∃ N, N = l.length := ⟨_, rfl⟩
  have hNw : N ≤ 1073741824 := by
    have := wIs_len l
    omega
  rw [← hN] at hc ⊢
  have HRX : Hid (cutB (bxI (.mk 4 n s l)) = if 32 ≤ maxD (cutL (bxIs l)) then .nothing else .list (cutL (bxIs l))) := Lib.hid (by
    rw [bxI, if_neg (by omega), if_neg (by omega), if_neg (by omega), if_pos rfl, cutB])
  obtain ⟨W3, hW3⟩ : ∃ W3, W3 = ((w.alloc (.cells #[.int .i64 4, .int .u64 n, .string s, .slice ao N c] 25)).alloc (.cells #[.int .i64 0, .int .u64 0, .string ⟨#[]⟩, .slice none 0 0] 25)).alloc (.cells #[.int .i64 4, .int .u64 0, .string ⟨#[]⟩, .slice none 0 0] 25) := ⟨_, rfl⟩
  have R0 : Hid (CutAt S w W3 n s (.slice ao N c) (.slice none 0 0) l 0) := Lib.hid (by
    rw [hW3]
    have f0 := Four.alloc w 4 n s (.slice ao N c)
    have f1 := Four.alloc (w.alloc (.cells #[.int .i64 4, .int .u64 n, .string s, .slice ao N c] 25)) 0 0 ⟨#[]⟩ (.slice none 0 0)
    have f2 := Four.alloc ((w.alloc (.cells #[.int .i64 4, .int .u64 n, .string s, .slice ao N c] 25)).alloc (.cells #[.int .i64 0, .int .u64 0, .string ⟨#[]⟩, .slice none 0 0] 25)) 4 0 ⟨#[]⟩ (.slice none 0 0)
    simp only [World.size_alloc] at f1 f2
    exact ⟨(f0.keep (alloc_below _ _)).keep (alloc_below _ _), f1.keep (alloc_below _ _), f2, ⟨[], [], rfl, rfl, World.ownsRow_nil _ _ _ _, fun j h => absurd h (by simp), fun j _ h => absurd h (by simp)⟩, (((one_alloc w _).2.alloc (by simp) _).alloc (by simp; omega) _), by simp⟩)
  have HW3 := Lib.hid hW3
  have HN := Lib.hid hN
  have HSL := Lib.hid hsl
  have HOK := Lib.hid hok.2.2
  have HIH := Lib.hid ih
  have HWI := Lib.hid (show ∀ x ∈ l, wI x ≤ 1073741824 from fun x hx => by have := wIs_mem hx; omega)
  have HW := Lib.hid hw
  clear hi0 hz0 hz1 hz2 hN hW3 hsl hok ih hw hs
  go_enter Tryd.func9, Tryd.ntmps9
  go_wp2
  go_loopw [4] (fun si wr => ∃ (i : Nat) (so : Value), si = .int .i64 i ∧ i ≤ N ∧ Hid (CutAt S w wr n s (.slice ao N c) so l i)) (fun si _ => N - (intOf si).toNat)
  case atStart => exact ⟨0, _, rfl, Nat.zero_le _, by rw [← HW3.out]; exact R0⟩
  case round =>
    obtain ⟨i, so, rfl, hi, hR⟩ := hrel
    by_cases hlt : i < N
    · have hil : i < l.length := by rw [← HN.out]; exact hlt
      have hbw := hR.out.2.2.2.2.1
      obtain ⟨b, o, k', n', s', ao', len', c', rfl, c0, c1, c2, c3, hx⟩ := item_at HSL.out hbw i hil
      have hxd : Sits S wr.drew l[i] (.agg #[.int .i64 k', .int .u64 n', .string s', .slice ao' len' c']) := Sits.keep (w := wr) (w' := wr.drew) (fun k hk _ => ⟨hk, rfl⟩) _ _ hx
      have HC := Lib.hid (HIH.out l[i] (List.getElem_mem hil) S _ _ hxd (HOK.out _ (List.getElem_mem hil)) (HWI.out _ (List.getElem_mem hil)))
      have hRd := cutAt_drew hR.out
      obtain ⟨ys, qs, h1, h2, h3, h4, h5⟩ := hRd.2.2.2.1
      obtain ⟨sa, sc, hso⟩ := row_form4 h3
      subst hso
      have H3 := Lib.hid h3
      have H1 := Lib.hid h1
      have H2 := Lib.hid h2
      have H4 := Lib.hid h4
      have H5 := Lib.hid h5
      have HR := Lib.hid hRd
      have x3 := hR.out.1.c3
      have k3 := hR.out.2.2.1.c3
      have hsz := hR.out.2.2.2.2.2
      clear hx hxd hRd h1 h2 h3 h4 h5 hbw
      go_wp2
      go_region_law (first
        | (go_simp; refine HC.out.mono ?_; rintro e w1 ⟨u, y, rfl, hu, hy1, hy2, hy3, hy4, hb1⟩; obtain ⟨k1, n1, s1, a1, l1, d1, rfl⟩ := hu.form4; have hz1 : w.heap.size + 1 + 1 < w1.heap.size := (by have := hb1.size; simp at this; omega); have k31 := (hb1.cell (p := ⟨w.heap.size + 1 + 1, 3, none⟩) (by simp; omega)).trans k3; have HU := Lib.hid hu; have HB1 := Lib.hid hb1; have HY := Lib.hid (show _ ∧ _ ∧ _ ∧ _ from ⟨hy1, hy2, hy3, hy4⟩); clear hu hb1 hy1 hy2 hy3 hy4)
        | (refine step_append_sep rfl (.tmp 27) (.tmp 34) 23 rfl (w.heap.size + 3) 25 i0 _ 4 56 Tryd.underlying23 HI.out.1 HI.out.2.1 HI.out.2.2.1 HI.out.2.2.2 rfl (by decide) (.slice sa i sc) i (qcells qs) (by simp [Act.eval]) ((crow_own H3.out HB1.out).alloc _) ⟨w1.heap.size, 0, none⟩ 1 1 [.int .i64 k1, .int .u64 n1, .string s1, .slice a1 l1 d1] (by simp [Act.eval]) rfl (cells4q _ _ _ _ _ _) (ones4 _ _ _ _ _ _ _ _) (by unfold maxLen; omega) (by omega) (by simp; omega) ?_; intro v2 w2 hown hgrow hsep; obtain ⟨a2, c2, rfl⟩ := row_form4 hown; have f2 := cutAt_out HR.out H3.out HB1.out _ hgrow; have g2 := f2.f (i := 3); have e2 := f2.c3; clear f2; have H := Lib.hid (cutAt_add (q := (k1, n1, s1, .slice a1 l1 d1)) HR.out H1.out H2.out H3.out H4.out H5.out hil (fun k hk => (HS.out k hk).2) HB1.out HU.out HY.out _ hown hgrow hsep); clear hown hgrow hsep))
      all_goals
        go_wp2
        go_roundw
        case rel => exact ⟨i + 1, _, by go_num, by omega, H⟩
        case measure => simp [intOf]; omega
    · obtain rfl : i = N := by omega
      have hE := hR.out
      have HF2 := Lib.hid hE.2.1
      have hb3 := hE.2.2.2.2.1
      have HB3 := Lib.hid hb3
      have hrow := hE.2.2.2.1
      rw [HN.out] at hrow
      obtain ⟨ys, hyl, hyb, hyv, hyo, hyw, hysit⟩ := crow_end hrow
      have hf3 := hE.2.2.1
      obtain ⟨sa, sc, rfl⟩ : ∃ sa sc, so = .slice sa i sc := by
        obtain ⟨_, _, _, _, h3, _, _⟩ := hE.2.2.2.1
        exact row_form4 h3
      have x3 := hE.1.c3
      have e0 := hf3.c0
      have e1 := hf3.c1
      have e2 := hf3.c2
      have e3 := hf3.c3
      have HC := Lib.hid (refdeep_any (.mk 4 0 ⟨#[]⟩ ys) _ _ wr hysit (by rw [wI]; have := HW.out; simp [ByteArray.size]; omega))
      have hdp := deep_bx 4 0 ⟨#[]⟩ ys
      rw [if_pos rfl, hyb] at hdp
      have hm := maxD_cut (bxIs l)
      have HSIT := Lib.hid hysit
      have HY := Lib.hid (show _ ∧ _ ∧ _ ∧ _ from ⟨hyb, hyv, hyo, hyw⟩)
      have HF3 := Lib.hid hf3
      have hsz := hE.2.2.2.2.2
      rw [hdp] at HC
      clear hdp hyb hyv hyo hyw hysit hrow hE hf3 hb3 hR
      obtain ⟨M, hM⟩ : ∃ M, M = maxD (cutL (bxIs l)) := ⟨_, rfl⟩
      rw [← hM] at HC HRX hm
      clear hM
      go_wp2_with fail
      refine HC.out.mono ?_
      rintro e w1 ⟨rfl, hb1⟩
      have HB1 := Lib.hid hb1
      have hf31 := HF3.out.keep hb1
      have hf21 := HF2.out.keep hb1
      clear hb1 e0 e1 e2 e3
      by_cases h32 : 32 ≤ M
      · have hd : decide (((M + 1 : Nat) : Int) > 32) = true := by simp; omega
        have a0 := hf21.c0
        have a1 := hf21.c1
        have a2 := hf21.c2
        have a3 := hf21.c3
        have b0 := hf21.f (i := 0)
        have b1 := hf21.f (i := 1)
        have b2 := hf21.f (i := 2)
        have b3 := hf21.f (i := 3)
        have HR := Lib.hid (HRX.out.trans (if_pos h32))
        have HWZ := Lib.hid (show wI (.mk 0 0 ⟨#[]⟩ []) ≤ wI (.mk 4 n s l) by rw [wI_zero]; exact wI_pos _)
        go_wp2
        refine bodyPost_ret (v := .agg #[.int .i64 0, .int .u64 0, .string ⟨#[]⟩, .slice none 0 0]) (by simp [results, Tryd.results9, go_sem, *]) rfl ⟨_, .mk 0 0 ⟨#[]⟩ [], rfl, sits_zero _ _, by rw [HR.out, bx_zero], vI_zero, okI_zero, HWZ.out, ?_⟩
        exact ((((HB3.out.trans (HB1.out.mono HB3.out.size)).setCell (by simp) _).setCell (by simp) _).setCell (by simp) _).setCell (by simp) _
      · have hd : decide (((M + 1 : Nat) : Int) > 32) = false := by simp; omega
        have HR := Lib.hid (HRX.out.trans (if_neg h32))
        have a0 := hf21.c0
        have a1 := hf21.c1
        have a2 := hf21.c2
        have a3 := hf21.c3
        have b0 := hf21.f (i := 0)
        have b1 := hf21.f (i := 1)
        have b2 := hf21.f (i := 2)
        have b3 := hf21.f (i := 3)
        have e0 := hf31.c0
        have e1 := hf31.c1
        have e2 := hf31.c2
        have e3 := hf31.c3
        have HRY : Hid (bxI (.mk 4 0 ⟨#[]⟩ ys) = cutB (bxI (.mk 4 n s l))) := Lib.hid (by
          rw [HR.out, bxI, if_neg (by omega), if_neg (by omega), if_neg (by omega), if_pos rfl, HY.out.1])
        have HVY : Hid (vI (.mk 4 0 ⟨#[]⟩ ys)) := Lib.hid (by rw [vI]; exact ⟨by omega, fun _ => HY.out.2.1⟩)
        have HOY : Hid (okI (.mk 4 0 ⟨#[]⟩ ys)) := Lib.hid (by rw [okI]; exact ⟨by omega, by simp [ByteArray.size], HY.out.2.2.1⟩)
        have HWY : Hid (wI (.mk 4 0 ⟨#[]⟩ ys) ≤ wI (.mk 4 n s l)) := Lib.hid (by rw [HXW.out, wI]; have := HY.out.2.2.2; rw [show (⟨#[]⟩ : ByteArray).size = 0 from rfl]; omega)
        have HST := Lib.hid (fun (W : World) (hW : ∀ k, k ≠ w.heap.size + 1 → W.heap[k]? = w1.heap[k]?) => Sits.keep (T := fun k => S' k ∨ w.heap.size ≤ k) (w' := W) (fun k hk _ => by
          refine ⟨?_, hW k ?_⟩
          · rcases hk with hk | hk
            · exact Or.inl (HS.out k hk).1
            · exact Or.inr (by omega)
          · rcases hk with hk | hk
            · have := (HS.out k hk).2; omega
            · omega) _ _ (HSIT.out.below HB1.out))
        go_wp2
        refine bodyPost_ret (v := .agg #[.int .i64 4, .int .u64 0, .string ⟨#[]⟩, .slice sa i sc]) (by simp [results, Tryd.results9, go_sem, a0, a1, a2, a3]) rfl ⟨_, .mk 4 0 ⟨#[]⟩ ys, rfl, HST.out _ (fun k hk => ?_), HRY.out, HVY.out, HOY.out, HWY.out, ?_⟩
        · exact ((((heap_set_other hk).trans (heap_set_other hk)).trans (heap_set_other hk)).trans (heap_set_other hk))
        · exact ((((HB3.out.trans (HB1.out.mono HB3.out.size)).setCell (by simp) _).setCell (by simp) _).setCell (by simp) _).setCell (by simp) _

theorem cut_any (x : Itm) : CutOk x := by
  induction x using Itm.ind with
  | h k n s l ih =>
    by_cases h4 : k = 4
    · subst h4
      exact cut_list n s l ih
    · exact cut_step0 k n s l h4
end Go.Proofs.YtbghemndcndhpaaDoor
