/- bowerref12.Post: a node with an entry more, or none. Condition: sizes that fit. bowerref12.Drop: a node without an entry, or none. Condition: sizes that fit. bowerref12.Turn: a node whose entry at a place has another key, or none. Condition: sizes that fit. -/
import Derived.Test.YtjojfkddgdpnlaaInnerRPut
import Derived.Test.YtjojfkddgdpnlaaInnerDrop
import Derived.Test.YtjojfkddgdpnlaaInnerTurn
namespace Go.Proofs.Ytjojfkddgdpnlaa
open Go.RowKit

/-- What the document's Post asks. -/
structure Nod.PostD (n : Nod) (low : ByteArray) (kid fan : Int) : Prop where
  inner : n.Inner
  key : keyB low = true
  cell : cellB kid = true
  fans : 4 ≤ fan ∧ fan ≤ 64
  room : (n.ks.length : Int) < fan
  inn : insideB n.lo.data.toList n.hi.data.toList n.la low.data.toList = true
  new : ∀ i, i < n.ks.length → nth n.ks i ≠ low ∧ ni n.cs i ≠ kid
/-- Where a key that is not there has its place. -/
theorem newAt_less {ks : List ByteArray} {low : ByteArray} (hr : Rises ks) (hn : ∀ i, i < ks.length → nth ks i ≠ low) : NewAt ks (placeF ks low) low := newAt_of hr (fun h => hn _ h.1 h.2)
theorem newAt_not {ks : List ByteArray} {low : ByteArray} {a : Nat} (h : NewAt ks a low) : ∀ i, i < a → lss low.data.toList (nth ks i).data.toList = false := fun i hi => by
  have := h.low i hi
  cases h2 : lss low.data.toList (nth ks i).data.toList with
  | false => rfl
  | true => exact absurd (lss_trans _ _ _ this h2) (by rw [lss_irrefl]; exact fun h => by cases h)

set_option maxHeartbeats 8000000 in
set_option maxRecDepth 100000 in
theorem rpost_of (lv nx : Int) (lo hi : ByteArray) (la : Bool) (ak av ac : Option Addr) (ck cv cc : Nat) (ks : List ByteArray) (vs : List Nat) (cs : List Int) (low : ByteArray) (kid fan : Int) (b : Bool) (w : World) (hN : NdAt w ak av ac ks.length ck vs.length cv cs.length cc ks vs cs) (hf : Fit lo hi ks ks.length vs.length cs.length) (hk : low.size ≤ 140737488355328) (hb : b = true ↔ Nod.PostD ⟨lv, nx, lo, hi, la, ks, vs, cs⟩ low kid fan) :
    Calls Try.prog 14 #[.agg #[.int .i64 lv, .string lo, .string hi, .bool la, .int .i64 nx, .slice ak ks.length ck, .slice av vs.length cv, .slice ac cs.length cc], .string low, .int .i64 kid, .int .i64 fan] w fun e w' => GaveD w w' e b (Nod.or b (Nod.post ⟨lv, nx, lo, hi, la, ks, vs, cs⟩ low kid)) := by
  obtain ⟨n1, n2, hB⟩ := boxes2 w #[.int .i64 lv, .string lo, .string hi, .bool la, .int .i64 nx, .slice ak ks.length ck, .slice av vs.length cv, .slice ac cs.length cc] #[.int .i64 0, .string ⟨#[]⟩, .string ⟨#[]⟩, .bool false, .int .i64 0, .slice none 0 0, .slice none 0 0, .slice none 0 0]
  obtain ⟨w1, hw1⟩ : ∃ w1, w1 = (w.alloc (.cells #[.int .i64 lv, .string lo, .string hi, .bool la, .int .i64 nx, .slice ak ks.length ck, .slice av vs.length cv, .slice ac cs.length cc] 26)).alloc (.cells #[.int .i64 0, .string ⟨#[]⟩, .string ⟨#[]⟩, .bool false, .int .i64 0, .slice none 0 0, .slice none 0 0, .slice none 0 0] 26) := ⟨_, rfl⟩
  have HB : Hid (Below w.heap.size w w1) := Lib.hid (by rw [hw1]; exact hB)
  have HN1 : Hid (NB w1 w.heap.size #[.int .i64 lv, .string lo, .string hi, .bool la, .int .i64 nx, .slice ak ks.length ck, .slice av vs.length cv, .slice ac cs.length cc]) := Lib.hid (by rw [hw1]; exact n1)
  have HN2 : Hid (NB w1 (w.heap.size + 1) #[.int .i64 0, .string ⟨#[]⟩, .string ⟨#[]⟩, .bool false, .int .i64 0, .slice none 0 0, .slice none 0 0, .slice none 0 0]) := Lib.hid (by rw [hw1]; exact n2)
  have HSZ : Hid (w1.heap.size = w.heap.size + 1 + 1) := Lib.hid (by rw [hw1, World.size_alloc, World.size_alloc])
  have HW1 := Lib.hid hw1
  obtain ⟨q0, q1, q2, q3, q4, q5, q6, q7⟩ := HN1.out.cells
  obtain ⟨l, hl⟩ := bool_or (0 < lv ∧ SoundP lv nx lo hi la ks.length vs.length cs.length ks cs 64)
  have HIS := Lib.hid (rinner_of lv nx lo hi la ak av ac ks.length ck vs.length cv cs.length cc ks vs cs l w1 (hN.keep HB.out) hf hl)
  have HND := Lib.hid hN
  have HFT := Lib.hid hf
  have HLL := Lib.hid hl
  have HBB := Lib.hid hb
  have HKK := Lib.hid hk
  have HKY := Lib.hid (rkey_any low)
  have HCY := Lib.hid (rcell_any kid)
  have HIN := Lib.hid (fun W => rinside_any lo hi la low W hf.lo hf.hi hk)
  clear hN hf hb hl hw1 n1 n2 hB hk
  go_enter Try.func14, Try.ntmps14
  go_wp2_with fail
  rw [← HW1.out]
  refine HIS.out.mono ?_
  rintro e w2 ⟨rfl, hb2⟩
  have HB2 := Lib.hid hb2
  have HRB := Lib.hid (HN2.out.below HB2.out)
  have HBW := Lib.hid (HB.out.trans (HB2.out.mono HB.out.size))
  clear hb2 q0 q1 q2 q3 q4 q5 q6 q7 HIS
  cases l with
  | false =>
    have HF : Hid (b = false) := Lib.hid (bool_no HBB.out (fun h => by have := HLL.out.2 h.inner; cases this))
    obtain ⟨t0, t1, t2, t3, t4, t5, t6, t7⟩ := (HRB.out).cells
    have f0 := (HRB.out).frozen 0
    have f1 := (HRB.out).frozen 1
    have f2 := (HRB.out).frozen 2
    have f3 := (HRB.out).frozen 3
    have f4 := (HRB.out).frozen 4
    have f5 := (HRB.out).frozen 5
    have f6 := (HRB.out).frozen 6
    have f7 := (HRB.out).frozen 7
    go_wp2
    refine bodyPost_ret (v := .tuple #[.agg #[.int .i64 0, .string ⟨#[]⟩, .string ⟨#[]⟩, .bool false, .int .i64 0, .slice none 0 0, .slice none 0 0, .slice none 0 0], .bool false]) (by simp [results, Try.results14, go_sem, *]) rfl ?_
    rw [HF.out, Nod.ior_no]
    exact GaveN.d (igave_none (wr5_below (w.heap.size + 1) w.heap.size (by omega) [(0, _), (1, _), (2, _), (3, _), (4, _), (5, _), (6, _), (7, _)] w w2 HBW.out))
  | true =>
    have HS := Lib.hid (HLL.out.1 rfl)
    go_wp2_with fail
    refine (HKY.out _).mono ?_
    rintro e wx ⟨rfl, rfl⟩
    cases hkb : keyB low with
    | false =>
      have HZ := Lib.hid hkb
      have HF : Hid (b = false) := Lib.hid (bool_no HBB.out (fun h => by have := h.key; rw [HZ.out] at this; cases this))
      obtain ⟨t0, t1, t2, t3, t4, t5, t6, t7⟩ := (HRB.out).cells
      have f0 := (HRB.out).frozen 0
      have f1 := (HRB.out).frozen 1
      have f2 := (HRB.out).frozen 2
      have f3 := (HRB.out).frozen 3
      have f4 := (HRB.out).frozen 4
      have f5 := (HRB.out).frozen 5
      have f6 := (HRB.out).frozen 6
      have f7 := (HRB.out).frozen 7
      go_wp2
      refine bodyPost_ret (v := .tuple #[.agg #[.int .i64 0, .string ⟨#[]⟩, .string ⟨#[]⟩, .bool false, .int .i64 0, .slice none 0 0, .slice none 0 0, .slice none 0 0], .bool false]) (by simp [results, Try.results14, go_sem, *]) rfl ?_
      rw [HF.out, Nod.ior_no]
      exact GaveN.d (igave_none (wr5_below (w.heap.size + 1) w.heap.size (by omega) [(0, _), (1, _), (2, _), (3, _), (4, _), (5, _), (6, _), (7, _)] w w2 HBW.out))
    | true =>
    have HKB := Lib.hid hkb
    clear hkb
    go_wp2_with fail
    refine (HCY.out _).mono ?_
    rintro e wx ⟨rfl, rfl⟩
    cases hcb : cellB kid with
    | false =>
      have HZ := Lib.hid hcb
      have HF : Hid (b = false) := Lib.hid (bool_no HBB.out (fun h => by have := h.cell; rw [HZ.out] at this; cases this))
      obtain ⟨t0, t1, t2, t3, t4, t5, t6, t7⟩ := (HRB.out).cells
      have f0 := (HRB.out).frozen 0
      have f1 := (HRB.out).frozen 1
      have f2 := (HRB.out).frozen 2
      have f3 := (HRB.out).frozen 3
      have f4 := (HRB.out).frozen 4
      have f5 := (HRB.out).frozen 5
      have f6 := (HRB.out).frozen 6
      have f7 := (HRB.out).frozen 7
      go_wp2
      refine bodyPost_ret (v := .tuple #[.agg #[.int .i64 0, .string ⟨#[]⟩, .string ⟨#[]⟩, .bool false, .int .i64 0, .slice none 0 0, .slice none 0 0, .slice none 0 0], .bool false]) (by simp [results, Try.results14, go_sem, *]) rfl ?_
      rw [HF.out, Nod.ior_no]
      exact GaveN.d (igave_none (wr5_below (w.heap.size + 1) w.heap.size (by omega) [(0, _), (1, _), (2, _), (3, _), (4, _), (5, _), (6, _), (7, _)] w w2 HBW.out))
    | true =>
    have HCB := Lib.hid hcb
    clear hcb
    obtain ⟨q0, q1, q2, q3, q4, q5, q6, q7⟩ := (HN1.out.below HB2.out).cells
    by_cases hf1 : fan < 4
    · clear q0 q1 q2 q3 q4 q5 q6 q7
      have HF : Hid (b = false) := Lib.hid (bool_no HBB.out (fun h => by have := h.fans; omega))
      obtain ⟨t0, t1, t2, t3, t4, t5, t6, t7⟩ := (HRB.out).cells
      have f0 := (HRB.out).frozen 0
      have f1 := (HRB.out).frozen 1
      have f2 := (HRB.out).frozen 2
      have f3 := (HRB.out).frozen 3
      have f4 := (HRB.out).frozen 4
      have f5 := (HRB.out).frozen 5
      have f6 := (HRB.out).frozen 6
      have f7 := (HRB.out).frozen 7
      go_wp2
      refine bodyPost_ret (v := .tuple #[.agg #[.int .i64 0, .string ⟨#[]⟩, .string ⟨#[]⟩, .bool false, .int .i64 0, .slice none 0 0, .slice none 0 0, .slice none 0 0], .bool false]) (by simp [results, Try.results14, go_sem, *]) rfl ?_
      rw [HF.out, Nod.ior_no]
      exact GaveN.d (igave_none (wr5_below (w.heap.size + 1) w.heap.size (by omega) [(0, _), (1, _), (2, _), (3, _), (4, _), (5, _), (6, _), (7, _)] w w2 HBW.out))
    by_cases hf2 : 64 < fan
    · clear q0 q1 q2 q3 q4 q5 q6 q7
      have HF : Hid (b = false) := Lib.hid (bool_no HBB.out (fun h => by have := h.fans; omega))
      obtain ⟨t0, t1, t2, t3, t4, t5, t6, t7⟩ := (HRB.out).cells
      have f0 := (HRB.out).frozen 0
      have f1 := (HRB.out).frozen 1
      have f2 := (HRB.out).frozen 2
      have f3 := (HRB.out).frozen 3
      have f4 := (HRB.out).frozen 4
      have f5 := (HRB.out).frozen 5
      have f6 := (HRB.out).frozen 6
      have f7 := (HRB.out).frozen 7
      go_wp2
      refine bodyPost_ret (v := .tuple #[.agg #[.int .i64 0, .string ⟨#[]⟩, .string ⟨#[]⟩, .bool false, .int .i64 0, .slice none 0 0, .slice none 0 0, .slice none 0 0], .bool false]) (by simp [results, Try.results14, go_sem, *]) rfl ?_
      rw [HF.out, Nod.ior_no]
      exact GaveN.d (igave_none (wr5_below (w.heap.size + 1) w.heap.size (by omega) [(0, _), (1, _), (2, _), (3, _), (4, _), (5, _), (6, _), (7, _)] w w2 HBW.out))
    by_cases hf3 : fan ≤ (ks.length : Int)
    · have HZ := Lib.hid hf3
      have HF : Hid (b = false) := Lib.hid (bool_no HBB.out (fun h => by have := h.room; simp only at this; have := HZ.out; omega))
      obtain ⟨t0, t1, t2, t3, t4, t5, t6, t7⟩ := (HRB.out).cells
      have f0 := (HRB.out).frozen 0
      have f1 := (HRB.out).frozen 1
      have f2 := (HRB.out).frozen 2
      have f3 := (HRB.out).frozen 3
      have f4 := (HRB.out).frozen 4
      have f5 := (HRB.out).frozen 5
      have f6 := (HRB.out).frozen 6
      have f7 := (HRB.out).frozen 7
      go_wp2
      refine bodyPost_ret (v := .tuple #[.agg #[.int .i64 0, .string ⟨#[]⟩, .string ⟨#[]⟩, .bool false, .int .i64 0, .slice none 0 0, .slice none 0 0, .slice none 0 0], .bool false]) (by simp [results, Try.results14, go_sem, *]) rfl ?_
      rw [HF.out, Nod.ior_no]
      exact GaveN.d (igave_none (wr5_below (w.heap.size + 1) w.heap.size (by omega) [(0, _), (1, _), (2, _), (3, _), (4, _), (5, _), (6, _), (7, _)] w w2 HBW.out))
    have hlv0 : lv ≠ 0 := by have := HS.out.1; omega
    obtain ⟨hc, hnz, hv0, _⟩ := HS.out.2.entries.inner hlv0
    have HVN : Hid (vs = []) := Lib.hid (List.eq_nil_of_length_eq_zero hv0)
    have HLC := Lib.hid hc
    have HRI := Lib.hid HS.out.2.keys.rise
    have HFAN : Hid ((4 ≤ fan ∧ fan ≤ 64) ∧ (ks.length : Int) < fan) := Lib.hid (by omega)
    clear hc hnz hv0
    go_wp2_with fail
    refine (HIN.out _).mono ?_
    rintro e w3 ⟨rfl, hd3⟩
    have HB3 := Lib.hid (HB2.out.trans ((Drew.below hd3 _).mono HB2.out.size))
    have HR3 := Lib.hid (HN2.out.below HB3.out)
    have HBV := Lib.hid (HB.out.trans (HB3.out.mono HB.out.size))
    clear hd3 q0 q1 q2 q3 q4 q5 q6 q7 HIN hf1 hf2 hf3
    cases hib : insideB lo.data.toList hi.data.toList la low.data.toList with
    | false =>
      have HZ := Lib.hid hib
      have HF : Hid (b = false) := Lib.hid (bool_no HBB.out (fun h => by have h2 := h.inn; simp only at h2; rw [HZ.out] at h2; cases h2))
      obtain ⟨t0, t1, t2, t3, t4, t5, t6, t7⟩ := (HR3.out).cells
      have f0 := (HR3.out).frozen 0
      have f1 := (HR3.out).frozen 1
      have f2 := (HR3.out).frozen 2
      have f3 := (HR3.out).frozen 3
      have f4 := (HR3.out).frozen 4
      have f5 := (HR3.out).frozen 5
      have f6 := (HR3.out).frozen 6
      have f7 := (HR3.out).frozen 7
      go_wp2
      refine bodyPost_ret (v := .tuple #[.agg #[.int .i64 0, .string ⟨#[]⟩, .string ⟨#[]⟩, .bool false, .int .i64 0, .slice none 0 0, .slice none 0 0, .slice none 0 0], .bool false]) (by simp [results, Try.results14, go_sem, *]) rfl ?_
      rw [HF.out, Nod.ior_no]
      exact GaveN.d (igave_none (wr5_below (w.heap.size + 1) w.heap.size (by omega) [(0, _), (1, _), (2, _), (3, _), (4, _), (5, _), (6, _), (7, _)] w w3 HBV.out))
    | true =>
    have HIB := Lib.hid hib
    clear hib
    go_upto_region 6 with fail
    go_loop [10] (fun s => ∃ i : Nat, s = .int .i64 i ∧ i ≤ ks.length ∧ Hid (∀ j, j < i → nth ks j ≠ low ∧ ni cs j ≠ kid)) (fun s => ks.length - (intOf s).toNat)
    case atStart => exact ⟨0, rfl, Nat.zero_le _, Lib.hid (fun j hj => absurd hj (Nat.not_lt_zero _))⟩
    case round =>
      obtain ⟨i, rfl, hi2, hall⟩ := hrel
      obtain ⟨q0, q1, q2, q3, q4, q5, q6, q7⟩ := (HN1.out.below HB3.out).cells
      by_cases hlt : i < ks.length
      case pos =>
        have g1 : (i : Int) < ks.length := by omega
        have g2 : (i : Int) < cs.length := by have := HLC.out; omega
        have hb64 := HFT.out.n.1
        obtain ⟨gk, ok, rfl, hck⟩ := rd_at HND.out.k ⟨#[]⟩ i hlt
        obtain ⟨gc, oc, rfl, hcc⟩ := rd_at HND.out.c (0 : Int) i (by have := HLC.out; omega)
        have e1 : w3.cell? ⟨gk, ok + i, none⟩ = some (.string (nth ks i)) := by
          have h1 := hck i hlt
          exact (HBV.out.cell (p := ⟨gk, ok + i, none⟩) (World.block_lt_of_cell? w _ h1)).trans h1
        have e2 : w3.cell? ⟨gc, oc + i, none⟩ = some (.int .i64 (ni cs i)) := by
          have h2 := hcc i (by have := HLC.out; omega)
          exact (HBV.out.cell (p := ⟨gc, oc + i, none⟩) (World.block_lt_of_cell? w _ h2)).trans h2
        clear hck hcc
        by_cases he1 : nth ks i = low
        · have hd1 : ((nth ks i).toList == low.toList) = true := by rw [he1]; simp
          have HF : Hid (b = false) := Lib.hid (bool_no HBB.out (fun h => (h.new i hlt).1 he1))
          clear he1
          generalize nth ks i = s at *
          obtain ⟨t0, t1, t2, t3, t4, t5, t6, t7⟩ := (HR3.out).cells
          have f0 := (HR3.out).frozen 0
          have f1 := (HR3.out).frozen 1
          have f2 := (HR3.out).frozen 2
          have f3 := (HR3.out).frozen 3
          have f4 := (HR3.out).frozen 4
          have f5 := (HR3.out).frozen 5
          have f6 := (HR3.out).frozen 6
          have f7 := (HR3.out).frozen 7
          go_wp2
          refine bodyPost_ret (v := .tuple #[.agg #[.int .i64 0, .string ⟨#[]⟩, .string ⟨#[]⟩, .bool false, .int .i64 0, .slice none 0 0, .slice none 0 0, .slice none 0 0], .bool false]) (by simp [results, Try.results14, go_sem, *]) rfl ?_
          rw [HF.out, Nod.ior_no]
          exact GaveN.d (igave_none (wr5_below (w.heap.size + 1) w.heap.size (by omega) [(0, _), (1, _), (2, _), (3, _), (4, _), (5, _), (6, _), (7, _)] w w3 HBV.out))
        · have hd1 := text_ne he1
          have HQ1 := Lib.hid he1
          clear he1
          by_cases he2 : ni cs i = kid
          · have hd2 : (ni cs i == kid) = true := by rw [he2]; simp
            have HF : Hid (b = false) := Lib.hid (bool_no HBB.out (fun h => (h.new i hlt).2 he2))
            clear he2
            generalize nth ks i = s at *
            generalize ni cs i = z at *
            obtain ⟨t0, t1, t2, t3, t4, t5, t6, t7⟩ := (HR3.out).cells
            have f0 := (HR3.out).frozen 0
            have f1 := (HR3.out).frozen 1
            have f2 := (HR3.out).frozen 2
            have f3 := (HR3.out).frozen 3
            have f4 := (HR3.out).frozen 4
            have f5 := (HR3.out).frozen 5
            have f6 := (HR3.out).frozen 6
            have f7 := (HR3.out).frozen 7
            go_wp2
            refine bodyPost_ret (v := .tuple #[.agg #[.int .i64 0, .string ⟨#[]⟩, .string ⟨#[]⟩, .bool false, .int .i64 0, .slice none 0 0, .slice none 0 0, .slice none 0 0], .bool false]) (by simp [results, Try.results14, go_sem, *]) rfl ?_
            rw [HF.out, Nod.ior_no]
            exact GaveN.d (igave_none (wr5_below (w.heap.size + 1) w.heap.size (by omega) [(0, _), (1, _), (2, _), (3, _), (4, _), (5, _), (6, _), (7, _)] w w3 HBV.out))
          · have hd2 : (ni cs i == kid) = false := beq_eq_false_iff_ne.2 he2
            have HN : Hid (∀ j, j < i + 1 → nth ks j ≠ low ∧ ni cs j ≠ kid) := Lib.hid (fun j hj => by
              by_cases e : j = i
              · subst e; exact ⟨HQ1.out, he2⟩
              · exact hall.out j (by omega))
            clear he2 HQ1
            generalize nth ks i = s at *
            generalize ni cs i = z at *
            go_wp2
            go_round
            case rel => exact ⟨i + 1, by go_num, by omega, HN⟩
            case measure => simp [intOf]; omega
      case neg =>
        obtain rfl : i = ks.length := by omega
        have HT : Hid (b = true) := Lib.hid (HBB.out.2 ⟨HS.out, HKB.out, HCB.out, HFAN.out.1, HFAN.out.2, HIB.out, hall.out⟩)
        have hna := newAt_less HRI.out (fun i hi => (hall.out i hi).1)
        have HPU := Lib.hid (fun W (h : Below w.heap.size w W) => rput_of lv nx lo hi la ak av ac ck cv cc ks vs cs low kid (placeF ks low) W (HND.out.keep h) HFT.out HLC.out HKK.out hna.le (newAt_not hna) (fun h => hna.high _ (Nat.le_refl _) h))
        have HNO : Hid (Nod.or b (Nod.post ⟨lv, nx, lo, hi, la, ks, vs, cs⟩ low kid) = ⟨lv, nx, lo, hi, la, insF ks (placeF ks low) low, vs, insF cs (placeF ks low) kid⟩) := Lib.hid (by rw [HT.out, HVN.out]; rfl)
        have hln : (insF ks (placeF ks low) low).length = (insF ks (placeF ks low) low).length := rfl
        clear hna hln
        generalize insF ks (placeF ks low) low = P at *
        generalize insF cs (placeF ks low) kid = R at *
        go_wp2_with fail
        refine (HPU.out _ HBV.out).mono ?_
        rintro e w4 ⟨ka, ca, kc, cc2, rfl, h1, h2, h3⟩
        have HR4 := Lib.hid (HR3.out.below h3)
        have HB4 := Lib.hid (HBV.out.trans (h3.mono HBV.out.size))
        have HH1 := Lib.hid h1
        have HH2 := Lib.hid h2
        have HVW := Lib.hid (HND.out.v.keep HB4.out)
        clear h1 h2 h3 q0 q1 q2 q3 q4 q5 q6 q7 HPU
        obtain ⟨t0, t1, t2, t3, t4, t5, t6, t7⟩ := HR4.out.cells
        have f0 := HR4.out.frozen 0
        have f1 := HR4.out.frozen 1
        have f2 := HR4.out.frozen 2
        have f3 := HR4.out.frozen 3
        have f4 := HR4.out.frozen 4
        have f5 := HR4.out.frozen 5
        have f6 := HR4.out.frozen 6
        have f7 := HR4.out.frozen 7
        go_wp2
        refine bodyPost_ret (v := .tuple #[.agg #[.int .i64 lv, .string lo, .string hi, .bool la, .int .i64 nx, .slice ka P.length kc, .slice av vs.length cv, .slice ca R.length cc2], .bool true]) (by simp [results, Try.results14, go_sem, *]) rfl ?_
        have h7 := wr5_below (w.heap.size + 1) w.heap.size (by omega) [(0, .int .i64 lv), (1, .string lo), (2, .string hi), (3, .bool la), (4, .int .i64 nx), (5, .slice ka P.length kc), (6, .slice av vs.length cv), (7, .slice ca R.length cc2)] w w4 HB4.out
        rw [HNO.out, HT.out]
        have h9 := own_wr5 HH1.out HR4.out (by decide) [(0, .int .i64 lv), (1, .string lo), (2, .string hi), (3, .bool la), (4, .int .i64 nx), (5, .slice ka P.length kc), (6, .slice av vs.length cv), (7, .slice ca R.length cc2)]
        have h8 := own_wr5 HH2.out HR4.out (by decide) [(0, .int .i64 lv), (1, .string lo), (2, .string hi), (3, .bool la), (4, .int .i64 nx), (5, .slice ka P.length kc), (6, .slice av vs.length cv), (7, .slice ca R.length cc2)]
        have hvv := HND.out.v.keep h7
        simp only [wr5] at h9 h8 h7 hvv
        exact ⟨ka, av, ca, kc, cv, cc2, rfl, ⟨rd_of_owns h9, hvv, rd_of_owns h8⟩, h7⟩
end Go.Proofs.Ytjojfkddgdpnlaa

namespace Go.Proofs.Ytjojfkddgdpnlaa
open Go.RowKit

set_option maxHeartbeats 8000000 in
set_option maxRecDepth 100000 in
theorem rdrop_of (lv nx : Int) (lo hi : ByteArray) (la : Bool) (ak av ac : Option Addr) (ck cv cc : Nat) (ks : List ByteArray) (vs : List Nat) (cs : List Int) (at_ : Int) (b : Bool) (w : World) (hN : NdAt w ak av ac ks.length ck vs.length cv cs.length cc ks vs cs) (hf : Fit lo hi ks ks.length vs.length cs.length) (hb : b = true ↔ Nod.Inner ⟨lv, nx, lo, hi, la, ks, vs, cs⟩ ∧ (0 < at_ ∧ at_ < ks.length)) :
    Calls Try.prog 16 #[.agg #[.int .i64 lv, .string lo, .string hi, .bool la, .int .i64 nx, .slice ak ks.length ck, .slice av vs.length cv, .slice ac cs.length cc], .int .i64 at_] w fun e w' => GaveD w w' e b (Nod.or b (Nod.drop ⟨lv, nx, lo, hi, la, ks, vs, cs⟩ at_.toNat)) := by
  obtain ⟨n1, n2, hB⟩ := boxes2 w #[.int .i64 lv, .string lo, .string hi, .bool la, .int .i64 nx, .slice ak ks.length ck, .slice av vs.length cv, .slice ac cs.length cc] #[.int .i64 0, .string ⟨#[]⟩, .string ⟨#[]⟩, .bool false, .int .i64 0, .slice none 0 0, .slice none 0 0, .slice none 0 0]
  obtain ⟨w1, hw1⟩ : ∃ w1, w1 = (w.alloc (.cells #[.int .i64 lv, .string lo, .string hi, .bool la, .int .i64 nx, .slice ak ks.length ck, .slice av vs.length cv, .slice ac cs.length cc] 26)).alloc (.cells #[.int .i64 0, .string ⟨#[]⟩, .string ⟨#[]⟩, .bool false, .int .i64 0, .slice none 0 0, .slice none 0 0, .slice none 0 0] 26) := ⟨_, rfl⟩
  have HB : Hid (Below w.heap.size w w1) := Lib.hid (by rw [hw1]; exact hB)
  have HN1 : Hid (NB w1 w.heap.size #[.int .i64 lv, .string lo, .string hi, .bool la, .int .i64 nx, .slice ak ks.length ck, .slice av vs.length cv, .slice ac cs.length cc]) := Lib.hid (by rw [hw1]; exact n1)
  have HN2 : Hid (NB w1 (w.heap.size + 1) #[.int .i64 0, .string ⟨#[]⟩, .string ⟨#[]⟩, .bool false, .int .i64 0, .slice none 0 0, .slice none 0 0, .slice none 0 0]) := Lib.hid (by rw [hw1]; exact n2)
  have HSZ : Hid (w1.heap.size = w.heap.size + 1 + 1) := Lib.hid (by rw [hw1, World.size_alloc, World.size_alloc])
  have HW1 := Lib.hid hw1
  obtain ⟨q0, q1, q2, q3, q4, q5, q6, q7⟩ := HN1.out.cells
  obtain ⟨l, hl⟩ := bool_or (0 < lv ∧ SoundP lv nx lo hi la ks.length vs.length cs.length ks cs 64)
  have HIS := Lib.hid (rinner_of lv nx lo hi la ak av ac ks.length ck vs.length cv cs.length cc ks vs cs l w1 (hN.keep HB.out) hf hl)
  have HND := Lib.hid hN
  have HFT := Lib.hid hf
  have HLL := Lib.hid hl
  have HBB := Lib.hid hb
  clear hN hf hb hl hw1 n1 n2 hB
  go_enter Try.func16, Try.ntmps16
  go_wp2_with fail
  rw [← HW1.out]
  refine HIS.out.mono ?_
  rintro e w2 ⟨rfl, hb2⟩
  have HB2 := Lib.hid hb2
  have HRB := Lib.hid (HN2.out.below HB2.out)
  have HBW := Lib.hid (HB.out.trans (HB2.out.mono HB.out.size))
  clear hb2 q0 q1 q2 q3 q4 q5 q6 q7
  cases l with
  | false =>
    have HF : Hid (b = false) := Lib.hid (bool_no HBB.out (fun h => by have := HLL.out.2 h.1; cases this))
    obtain ⟨t0, t1, t2, t3, t4, t5, t6, t7⟩ := (HRB.out).cells
    have f0 := (HRB.out).frozen 0
    have f1 := (HRB.out).frozen 1
    have f2 := (HRB.out).frozen 2
    have f3 := (HRB.out).frozen 3
    have f4 := (HRB.out).frozen 4
    have f5 := (HRB.out).frozen 5
    have f6 := (HRB.out).frozen 6
    have f7 := (HRB.out).frozen 7
    go_wp2
    refine bodyPost_ret (v := .tuple #[.agg #[.int .i64 0, .string ⟨#[]⟩, .string ⟨#[]⟩, .bool false, .int .i64 0, .slice none 0 0, .slice none 0 0, .slice none 0 0], .bool false]) (by simp [results, Try.results16, go_sem, *]) rfl ?_
    rw [HF.out, Nod.ior_no]
    exact GaveN.d (igave_none (wr5_below (w.heap.size + 1) w.heap.size (by omega) [(0, _), (1, _), (2, _), (3, _), (4, _), (5, _), (6, _), (7, _)] w w2 HBW.out))
  | true =>
    have HS := Lib.hid (HLL.out.1 rfl)
    by_cases hlo1 : at_ < 1
    · have HF : Hid (b = false) := Lib.hid (bool_no HBB.out (fun h => by have := h.2.1; omega))
      obtain ⟨t0, t1, t2, t3, t4, t5, t6, t7⟩ := (HRB.out).cells
      have f0 := (HRB.out).frozen 0
      have f1 := (HRB.out).frozen 1
      have f2 := (HRB.out).frozen 2
      have f3 := (HRB.out).frozen 3
      have f4 := (HRB.out).frozen 4
      have f5 := (HRB.out).frozen 5
      have f6 := (HRB.out).frozen 6
      have f7 := (HRB.out).frozen 7
      go_wp2
      refine bodyPost_ret (v := .tuple #[.agg #[.int .i64 0, .string ⟨#[]⟩, .string ⟨#[]⟩, .bool false, .int .i64 0, .slice none 0 0, .slice none 0 0, .slice none 0 0], .bool false]) (by simp [results, Try.results16, go_sem, *]) rfl ?_
      rw [HF.out, Nod.ior_no]
      exact GaveN.d (igave_none (wr5_below (w.heap.size + 1) w.heap.size (by omega) [(0, _), (1, _), (2, _), (3, _), (4, _), (5, _), (6, _), (7, _)] w w2 HBW.out))
    by_cases hhi1 : (ks.length : Int) ≤ at_
    · have HF : Hid (b = false) := Lib.hid (bool_no HBB.out (fun h => by have := h.2.2; omega))
      have hhi2 : ¬ at_ < 1 := hlo1
      obtain ⟨q0, q1, q2, q3, q4, q5, q6, q7⟩ := (HN1.out.below HB2.out).cells
      obtain ⟨t0, t1, t2, t3, t4, t5, t6, t7⟩ := (HRB.out).cells
      have f0 := (HRB.out).frozen 0
      have f1 := (HRB.out).frozen 1
      have f2 := (HRB.out).frozen 2
      have f3 := (HRB.out).frozen 3
      have f4 := (HRB.out).frozen 4
      have f5 := (HRB.out).frozen 5
      have f6 := (HRB.out).frozen 6
      have f7 := (HRB.out).frozen 7
      go_wp2
      refine bodyPost_ret (v := .tuple #[.agg #[.int .i64 0, .string ⟨#[]⟩, .string ⟨#[]⟩, .bool false, .int .i64 0, .slice none 0 0, .slice none 0 0, .slice none 0 0], .bool false]) (by simp [results, Try.results16, go_sem, *]) rfl ?_
      rw [HF.out, Nod.ior_no]
      exact GaveN.d (igave_none (wr5_below (w.heap.size + 1) w.heap.size (by omega) [(0, _), (1, _), (2, _), (3, _), (4, _), (5, _), (6, _), (7, _)] w w2 HBW.out))
    obtain ⟨a, rfl⟩ : ∃ a : Nat, at_ = a := ⟨at_.toNat, by omega⟩
    have hpos : 0 < a := by omega
    have halt : a < ks.length := by omega
    have hnat : ¬ ks.length ≤ a := by omega
    have hlv0 : lv ≠ 0 := by have := HS.out.1; omega
    obtain ⟨hc, _, hv0, _⟩ := HS.out.2.entries.inner hlv0
    have HT : Hid (b = true) := Lib.hid (HBB.out.2 ⟨HS.out, by omega⟩)
    have HVN : Hid (vs = []) := Lib.hid (List.eq_nil_of_length_eq_zero hv0)
    have hpl : (cutF ks a).length = ks.length - 1 := cutF_len halt
    have hql : (cutF cs a).length = ks.length - 1 := by rw [cutF_len (by omega), hc]
    have HLP : Hid ((cutF ks a).length = ks.length - 1 ∧ (cutF cs a).length = ks.length - 1) := Lib.hid ⟨hpl, hql⟩
    have HPl : Hid (∀ i, i < a → nth (cutF ks a) i = nth ks i) := Lib.hid (fun i hi => cutF_lt (⟨#[]⟩ : ByteArray) hi halt)
    have HQl : Hid (∀ i, i < a → ni (cutF cs a) i = ni cs i) := Lib.hid (fun i hi => cutF_lt 0 hi (by omega))
    have HPg : Hid (∀ i, a ≤ i → nth (cutF ks a) i = nth ks (i + 1)) := Lib.hid (fun i hi => cutF_ge (⟨#[]⟩ : ByteArray) hi halt)
    have HQg : Hid (∀ i, a ≤ i → ni (cutF cs a) i = ni cs (i + 1)) := Lib.hid (fun i hi => cutF_ge 0 hi (by omega))
    have HN64 : Hid (ks.length ≤ 274877906943) := Lib.hid HFT.out.n.1
    have HLC := Lib.hid hc
    have H0 : Hid (RowsAt w w2 #[.int .i64 lv, .string lo, .string hi, .bool la, .int .i64 nx, .slice ak ks.length ck, .slice av vs.length cv, .slice ac cs.length cc] (.slice none 0 0) (.slice none 0 0) 0 0 (cutF ks a) (cutF cs a)) := Lib.hid ⟨HN1.out.below HB2.out, HRB.out, World.ownsRow_nil _ _ _ _, World.ownsRow_nil _ _ _ _, HBW.out⟩
    have HNO : Hid (Nod.or b (Nod.drop ⟨lv, nx, lo, hi, la, ks, vs, cs⟩ (a : Int).toNat) = ⟨lv, nx, lo, hi, la, cutF ks a, vs, cutF cs a⟩) := Lib.hid (by rw [HT.out, HVN.out, Int.toNat_natCast]; rfl)
    obtain ⟨i0, hi0, hz0, hz1, hz3⟩ := info_parts infoStr
    have HI := Lib.hid (show _ ∧ _ ∧ _ ∧ _ from ⟨hi0, hz0, hz1, hz3⟩)
    obtain ⟨i1, hi1, hy0, hy1, hy3⟩ := info_parts infoInt
    have HJ := Lib.hid (show _ ∧ _ ∧ _ ∧ _ from ⟨hi1, hy0, hy1, hy3⟩)
    generalize cutF ks a = P at *
    generalize cutF cs a = R at *
    obtain ⟨q0, q1, q2, q3, q4, q5, q6, q7⟩ := H0.out.box.cells
    clear hi0 hz0 hz1 hz3 hi1 hy0 hy1 hy3 hpl hql hc hv0 HBB HLL HIS HVN
    go_upto_region 6 with fail
    clear q0 q1 q2 q3 q4 q5 q6 q7
    go_loopw [6, 7, 8] (fun x7 x8 s wr => ∃ (i m : Nat) (ko co : Option Addr) (kc c2 : Nat), x7 = .slice ko m kc ∧ x8 = .slice co m c2 ∧ s = .int .i64 i ∧ i ≤ ks.length ∧ m = (if a < i then i - 1 else i) ∧ Hid (RowsAt w wr #[.int .i64 lv, .string lo, .string hi, .bool la, .int .i64 nx, .slice ak ks.length ck, .slice av vs.length cv, .slice ac cs.length cc] (.slice ko m kc) (.slice co m c2) m m P R)) (fun _ _ s _ => ks.length - (intOf s).toNat)
    case atStart => exact ⟨0, 0, none, none, 0, 0, rfl, rfl, rfl, Nat.zero_le _, by rw [if_neg (by omega)], H0⟩
    case round =>
      obtain ⟨i, m, ko, co, kc, c2, rfl, rfl, rfl, hle, hm, hR⟩ := hrel
      clear H0
      by_cases hlt : i < ks.length
      case pos =>
        have hz2 := hR.out.size
        have g1 : (i : Int) < ks.length := by omega
        have g2 : (i : Int) < cs.length := by have := HLC.out; omega
        have hb64 := HN64.out
        obtain ⟨q0, q1, q2, q3, q4, q5, q6, q7⟩ := hR.out.box.cells
        by_cases hia : i = a
        · subst hia
          obtain rfl : m = i := by rw [hm, if_neg (by omega)]
          have hd : ((m : Int) == (m : Int)) = true := by simp
          clear hm
          go_wp2
          go_roundw
          case rel => exact ⟨m + 1, m, _, _, _, _, rfl, rfl, by go_num, by omega, by rw [if_pos (by omega)]; omega, hR⟩
          case measure => simp [intOf]; omega
        · obtain ⟨gk, ok, rfl, hck⟩ := rd_at HND.out.k ⟨#[]⟩ i hlt
          obtain ⟨gc, oc, rfl, hcc⟩ := rd_at HND.out.c (0 : Int) i (by have := HLC.out; omega)
          have HCE : Hid (∀ V, Below w.heap.size w V → V.cell? ⟨gk, ok + i, none⟩ = some (.string (nth ks i)) ∧ V.cell? ⟨gc, oc + i, none⟩ = some (.int .i64 (ni cs i))) := Lib.hid (fun V h => by
            have h1 := hck i hlt
            have h2 := hcc i (by have := HLC.out; omega)
            exact ⟨(h.cell (p := ⟨gk, ok + i, none⟩) (World.block_lt_of_cell? w _ h1)).trans h1, (h.cell (p := ⟨gc, oc + i, none⟩) (World.block_lt_of_cell? w _ h2)).trans h2⟩)
          have hd : ((i : Int) == (a : Int)) = false := beq_eq_false_iff_ne.2 (by omega)
          have hmm : m < ks.length - 1 ∧ nth P m = nth ks i ∧ ni R m = ni cs i := by
            by_cases h : a < i
            · rw [if_pos h] at hm
              obtain ⟨j, rfl⟩ : ∃ j, i = j + 1 := ⟨i - 1, by omega⟩
              rw [Nat.add_sub_cancel] at hm
              subst hm
              exact ⟨by omega, HPg.out m (by omega), HQg.out m (by omega)⟩
            · rw [if_neg h] at hm
              subst hm
              exact ⟨by omega, HPl.out m (by omega), HQl.out m (by omega)⟩
          have hms : m + 1 = if a < i + 1 then i + 1 - 1 else i + 1 := by
            by_cases h : a < i
            · rw [if_pos h] at hm
              rw [if_pos (by omega)]; omega
            · rw [if_neg h] at hm
              rw [if_neg (by omega)]; omega
          have HMS := Lib.hid hms
          have HMM := Lib.hid hmm.1
          have HPP := Lib.hid hmm.2.1
          have HRR := Lib.hid hmm.2.2
          clear hm hms hmm hck hcc HPl HQl HPg HQg HND
          generalize nth ks i = s at *
          generalize ni cs i = z at *
          obtain ⟨e1, e2⟩ := HCE.out wr hR.out.below
          go_wp2_with (first | ((with_reducible show wpList _ _ _ (⟨some 41, _, _, _, _, _⟩ :: _) _ _); refine wpList_append_own _ rfl (.tmp 34) (.tmp 40) 22 rfl (w.heap.size + 2) 9 i0 (.string ⟨#[]⟩) 1 16 Try.underlying22 HI.out.1 HI.out.2.1 HI.out.2.2.1 HI.out.2.2.2 rfl (by decide) _ m _ rfl (hR.out.keep (boxed_below wr _)).keys ⟨wr.heap.size, 0, none⟩ 1 1 [.string s] rfl rfl (news_one wr _ _) (ones_s _) (by have := HN64.out; have := HMM.out; unfold maxLen; omega) (by have := HN64.out; have := HMM.out; omega) (Nat.le_trans hR.out.size (boxed_below wr _).size) ?_; intro v1 w1 hown1 hgrow1 _; obtain ⟨a1, c1, rfl⟩ := row_form2 hown1; have H1 := Lib.hid ((hR.out.keep (boxed_below wr _)).addK hgrow1 hown1 (by have := HLP.out; have := HMM.out; omega) HPP.out); clear hown1 hgrow1 q0 q1 q2 q3 q4 q5 q6 q7 e1 e2; obtain ⟨q0, q1, q2, q3, q4, q5, q6, q7⟩ := H1.out.box.cells; obtain ⟨e1, e2⟩ := HCE.out w1 H1.out.below) | ((with_reducible show wpList _ _ _ (⟨some 49, _, _, _, _, _⟩ :: _) _ _); refine wpList_append_own _ rfl (.tmp 42) (.tmp 48) 24 rfl (w.heap.size + 2) 3 i1 (.int .i64 0) 1 8 Try.underlying24 HJ.out.1 HJ.out.2.1 HJ.out.2.2.1 HJ.out.2.2.2 rfl (by decide) _ m _ rfl (H1.out.keep (boxed_below w1 _)).kids ⟨w1.heap.size, 0, none⟩ 1 1 [.int .i64 z] rfl rfl (news_one w1 _ _) (ones_i _) (by have := HN64.out; have := HMM.out; unfold maxLen; omega) (by have := HN64.out; have := HMM.out; omega) (Nat.le_trans H1.out.size (boxed_below w1 _).size) ?_; intro v2 w2 hown2 hgrow2 _; obtain ⟨a2, c2, rfl⟩ := row_form2 hown2; have H2 := Lib.hid ((H1.out.keep (boxed_below w1 _)).addC hgrow2 hown2 (by have := HLP.out; have := HMM.out; omega) HRR.out); clear hown2 hgrow2 q0 q1 q2 q3 q4 q5 q6 q7 e1 e2; obtain ⟨q0, q1, q2, q3, q4, q5, q6, q7⟩ := H2.out.box.cells; obtain ⟨e1, e2⟩ := HCE.out w2 H2.out.below))
          go_roundw
          case rel => exact ⟨i + 1, m + 1, _, _, _, _, rfl, rfl, by go_num, by omega, HMS.out, H2⟩
          case measure => simp [intOf]; omega
      case neg =>
        obtain rfl : i = ks.length := by omega
        obtain rfl : m = ks.length - 1 := by rw [hm, if_pos halt]
        have H2 := hR
        clear hm
        have hq5 := H2.out.box.cells.2.2.2.2.2.1
        have hf5 := H2.out.box.frozen 5
        have hq7 := (H2.out.box.s5 (.slice ko (ks.length - 1) kc)).cells.2.2.2.2.2.2.2
        have hf7 := (H2.out.box.s5 (.slice ko (ks.length - 1) kc)).frozen 7
        go_upto_region 13 with fail
        have H3 := Lib.hid H2.out.put
        clear hq5 hf5 hq7 hf7
        refine @nameW (fun W => Code.wp _ _ _ _ W) _ ?_
        intro W6 hW6
        rw [← hW6] at H3
        clear hW6
        obtain ⟨q0, q1, q2, q3, q4, q5, q6, q7⟩ := H3.out.box.cells
        obtain ⟨t0, t1, t2, t3, t4, t5, t6, t7⟩ := H3.out.res.cells
        have f0 := H3.out.res.frozen 0
        have f1 := H3.out.res.frozen 1
        have f2 := H3.out.res.frozen 2
        have f3 := H3.out.res.frozen 3
        have f4 := H3.out.res.frozen 4
        have f5 := H3.out.res.frozen 5
        have f6 := H3.out.res.frozen 6
        have f7 := H3.out.res.frozen 7
        go_wp2
        refine bodyPost_ret (v := .tuple #[.agg #[.int .i64 lv, .string lo, .string hi, .bool la, .int .i64 nx, .slice ko (ks.length - 1) kc, .slice av vs.length cv, .slice co (ks.length - 1) c2], .bool true]) (by simp [results, Try.results16, go_sem, *]) rfl ?_
        have hk := H3.out.keys
        have hv := H3.out.kids
        rw [List.take_of_length_le (by have := HLP.out; omega)] at hk hv
        have h9 := own_wr5 hk H3.out.res (by decide) [(0, .int .i64 lv), (1, .string lo), (2, .string hi), (3, .bool la), (4, .int .i64 nx), (5, .slice ko (ks.length - 1) kc), (6, .slice av vs.length cv), (7, .slice co (ks.length - 1) c2)]
        have h8 := own_wr5 hv H3.out.res (by decide) [(0, .int .i64 lv), (1, .string lo), (2, .string hi), (3, .bool la), (4, .int .i64 nx), (5, .slice ko (ks.length - 1) kc), (6, .slice av vs.length cv), (7, .slice co (ks.length - 1) c2)]
        have h7 := wr5_below (w.heap.size + 1) w.heap.size (by omega) [(0, .int .i64 lv), (1, .string lo), (2, .string hi), (3, .bool la), (4, .int .i64 nx), (5, .slice ko (ks.length - 1) kc), (6, .slice av vs.length cv), (7, .slice co (ks.length - 1) c2)] w W6 H3.out.below
        simp only [wr5] at h9 h8 h7
        have hvv := (HND.out.v.keep h7)
        rw [HNO.out, HT.out]
        refine ⟨ko, av, co, kc, cv, c2, ?_, ⟨?_, hvv, ?_⟩, h7⟩
        · simp only [HLP.out.1, HLP.out.2]
        · simp only [HLP.out.1]; exact rd_of_owns h9
        · simp only [HLP.out.2]; exact rd_of_owns h8
end Go.Proofs.Ytjojfkddgdpnlaa

namespace Go.Proofs.Ytjojfkddgdpnlaa
open Go.RowKit

theorem own_some {w : World} {B : Nat} {t : TypeId} {v : Value} {n : Nat} {xs : List Value} (h : w.ownsRow B t 1 v n xs) (hn : 0 < n) : ∃ g cap, v = .slice (some ⟨g, 0, none⟩) n cap ∧ B ≤ g := by
  rcases h.2 with ⟨_, h0⟩ | ⟨g, cap, cur, rfl, hb, _⟩
  · omega
  · exact ⟨g, cap, rfl, hb⟩
theorem rd_vs {w : World} {av : Option Addr} {vs : List Nat} {cv : Nat} (h : Rd w (.slice av vs.length cv) (vs.map uv)) (e : vs = []) : Rd w (.slice av 0 cv) (([] : List Nat).map uv) := by
  subst e; exact h
theorem ones_map (ks : List ByteArray) : ∀ u ∈ ks.map Value.string, u.oneCell' = true := by
  intro u hu
  obtain ⟨x, _, rfl⟩ := List.mem_map.1 hu
  rfl

set_option maxHeartbeats 8000000 in
set_option maxRecDepth 100000 in
theorem riturn_of (lv nx : Int) (lo hi : ByteArray) (la : Bool) (ak av ac : Option Addr) (ck cv cc : Nat) (ks : List ByteArray) (vs : List Nat) (cs : List Int) (at_ : Int) (low : ByteArray) (b : Bool) (w : World) (hN : NdAt w ak av ac ks.length ck vs.length cv cs.length cc ks vs cs) (hf : Fit lo hi ks ks.length vs.length cs.length) (hk : low.size ≤ 140737488355328) (hb : b = true ↔ Nod.TurnP ⟨lv, nx, lo, hi, la, ks, vs, cs⟩ at_ low) :
    Calls Try.prog 18 #[.agg #[.int .i64 lv, .string lo, .string hi, .bool la, .int .i64 nx, .slice ak ks.length ck, .slice av vs.length cv, .slice ac cs.length cc], .int .i64 at_, .string low] w fun e w' => GaveD w w' e b (Nod.or b (Nod.turn ⟨lv, nx, lo, hi, la, ks, vs, cs⟩ at_.toNat low)) := by
  obtain ⟨n1, n2, hB⟩ := boxes2 w #[.int .i64 lv, .string lo, .string hi, .bool la, .int .i64 nx, .slice ak ks.length ck, .slice av vs.length cv, .slice ac cs.length cc] #[.int .i64 0, .string ⟨#[]⟩, .string ⟨#[]⟩, .bool false, .int .i64 0, .slice none 0 0, .slice none 0 0, .slice none 0 0]
  obtain ⟨w1, hw1⟩ : ∃ w1, w1 = (w.alloc (.cells #[.int .i64 lv, .string lo, .string hi, .bool la, .int .i64 nx, .slice ak ks.length ck, .slice av vs.length cv, .slice ac cs.length cc] 26)).alloc (.cells #[.int .i64 0, .string ⟨#[]⟩, .string ⟨#[]⟩, .bool false, .int .i64 0, .slice none 0 0, .slice none 0 0, .slice none 0 0] 26) := ⟨_, rfl⟩
  have HB : Hid (Below w.heap.size w w1) := Lib.hid (by rw [hw1]; exact hB)
  have HN1 : Hid (NB w1 w.heap.size #[.int .i64 lv, .string lo, .string hi, .bool la, .int .i64 nx, .slice ak ks.length ck, .slice av vs.length cv, .slice ac cs.length cc]) := Lib.hid (by rw [hw1]; exact n1)
  have HN2 : Hid (NB w1 (w.heap.size + 1) #[.int .i64 0, .string ⟨#[]⟩, .string ⟨#[]⟩, .bool false, .int .i64 0, .slice none 0 0, .slice none 0 0, .slice none 0 0]) := Lib.hid (by rw [hw1]; exact n2)
  have HSZ : Hid (w1.heap.size = w.heap.size + 1 + 1) := Lib.hid (by rw [hw1, World.size_alloc, World.size_alloc])
  have HW1 := Lib.hid hw1
  obtain ⟨q0, q1, q2, q3, q4, q5, q6, q7⟩ := HN1.out.cells
  obtain ⟨l, hl⟩ := bool_or (0 < lv ∧ SoundP lv nx lo hi la ks.length vs.length cs.length ks cs 64)
  have HIS := Lib.hid (rinner_of lv nx lo hi la ak av ac ks.length ck vs.length cv cs.length cc ks vs cs l w1 (hN.keep HB.out) hf hl)
  have HND := Lib.hid hN
  have HFT := Lib.hid hf
  have HLL := Lib.hid hl
  have HBB := Lib.hid hb
  have HKK := Lib.hid hk
  clear hN hf hb hl hw1 n1 n2 hB hk
  go_enter Try.func18, Try.ntmps18
  go_wp2_with fail
  rw [← HW1.out]
  refine HIS.out.mono ?_
  rintro e w2 ⟨rfl, hb2⟩
  have HB2 := Lib.hid hb2
  have HRB := Lib.hid (HN2.out.below HB2.out)
  have HBW := Lib.hid (HB.out.trans (HB2.out.mono HB.out.size))
  clear hb2 q0 q1 q2 q3 q4 q5 q6 q7
  cases l with
  | false =>
    have HF : Hid (b = false) := Lib.hid (bool_no HBB.out (fun h => by have := HLL.out.2 h.1; cases this))
    obtain ⟨t0, t1, t2, t3, t4, t5, t6, t7⟩ := (HRB.out).cells
    have f0 := (HRB.out).frozen 0
    have f1 := (HRB.out).frozen 1
    have f2 := (HRB.out).frozen 2
    have f3 := (HRB.out).frozen 3
    have f4 := (HRB.out).frozen 4
    have f5 := (HRB.out).frozen 5
    have f6 := (HRB.out).frozen 6
    have f7 := (HRB.out).frozen 7
    go_wp2
    refine bodyPost_ret (v := .tuple #[.agg #[.int .i64 0, .string ⟨#[]⟩, .string ⟨#[]⟩, .bool false, .int .i64 0, .slice none 0 0, .slice none 0 0, .slice none 0 0], .bool false]) (by simp [results, Try.results18, go_sem, *]) rfl ?_
    rw [HF.out, Nod.ior_no]
    exact GaveN.d (igave_none (wr5_below (w.heap.size + 1) w.heap.size (by omega) [(0, _), (1, _), (2, _), (3, _), (4, _), (5, _), (6, _), (7, _)] w w2 HBW.out))
  | true =>
    have HS := Lib.hid (HLL.out.1 rfl)
    by_cases hlo1 : at_ < 1
    · have HF : Hid (b = false) := Lib.hid (bool_no HBB.out (fun h => by have := h.2.1.1; omega))
      obtain ⟨t0, t1, t2, t3, t4, t5, t6, t7⟩ := (HRB.out).cells
      have f0 := (HRB.out).frozen 0
      have f1 := (HRB.out).frozen 1
      have f2 := (HRB.out).frozen 2
      have f3 := (HRB.out).frozen 3
      have f4 := (HRB.out).frozen 4
      have f5 := (HRB.out).frozen 5
      have f6 := (HRB.out).frozen 6
      have f7 := (HRB.out).frozen 7
      go_wp2
      refine bodyPost_ret (v := .tuple #[.agg #[.int .i64 0, .string ⟨#[]⟩, .string ⟨#[]⟩, .bool false, .int .i64 0, .slice none 0 0, .slice none 0 0, .slice none 0 0], .bool false]) (by simp [results, Try.results18, go_sem, *]) rfl ?_
      rw [HF.out, Nod.ior_no]
      exact GaveN.d (igave_none (wr5_below (w.heap.size + 1) w.heap.size (by omega) [(0, _), (1, _), (2, _), (3, _), (4, _), (5, _), (6, _), (7, _)] w w2 HBW.out))
    by_cases hhi1 : (ks.length : Int) ≤ at_
    · have HF : Hid (b = false) := Lib.hid (bool_no HBB.out (fun h => by have := h.2.1.2; simp only at this; omega))
      have hhi2 : ¬ at_ < 1 := hlo1
      obtain ⟨q0, q1, q2, q3, q4, q5, q6, q7⟩ := (HN1.out.below HB2.out).cells
      obtain ⟨t0, t1, t2, t3, t4, t5, t6, t7⟩ := (HRB.out).cells
      have f0 := (HRB.out).frozen 0
      have f1 := (HRB.out).frozen 1
      have f2 := (HRB.out).frozen 2
      have f3 := (HRB.out).frozen 3
      have f4 := (HRB.out).frozen 4
      have f5 := (HRB.out).frozen 5
      have f6 := (HRB.out).frozen 6
      have f7 := (HRB.out).frozen 7
      go_wp2
      refine bodyPost_ret (v := .tuple #[.agg #[.int .i64 0, .string ⟨#[]⟩, .string ⟨#[]⟩, .bool false, .int .i64 0, .slice none 0 0, .slice none 0 0, .slice none 0 0], .bool false]) (by simp [results, Try.results18, go_sem, *]) rfl ?_
      rw [HF.out, Nod.ior_no]
      exact GaveN.d (igave_none (wr5_below (w.heap.size + 1) w.heap.size (by omega) [(0, _), (1, _), (2, _), (3, _), (4, _), (5, _), (6, _), (7, _)] w w2 HBW.out))
    obtain ⟨a, rfl⟩ : ∃ a : Nat, at_ = a := ⟨at_.toNat, by omega⟩
    have hpos : 0 < a := by omega
    have halt : a < ks.length := by omega
    have hlv0 : lv ≠ 0 := by have := HS.out.1; omega
    obtain ⟨hc, _, hv0, _⟩ := HS.out.2.entries.inner hlv0
    have HVN : Hid (vs = []) := Lib.hid (List.eq_nil_of_length_eq_zero hv0)
    have HCN : Hid (∀ V, Below w2.heap.size w2 V → NB V w.heap.size #[.int .i64 lv, .string lo, .string hi, .bool la, .int .i64 nx, .slice ak ks.length ck, .slice av vs.length cv, .slice ac cs.length cc]) := Lib.hid (fun V h => (HN1.out.below HB2.out).below h)
    obtain ⟨gk, hgk⟩ := HND.out.k.src (by rw [List.length_map]; omega)
    obtain ⟨rfl, hck⟩ := hgk
    have HSRC : Hid (∀ V, Below w.heap.size w V → ∀ (j : Nat) (v : Value), (ks.map Value.string)[j]? = some v → V.cell? (gk.add j) = some v) := Lib.hid (fun V h j v hj => by
      have h1 := hck j v hj
      have hlt := World.block_lt_of_cell? w _ h1
      exact (h.cell (p := gk.add j) hlt).trans h1)
    obtain ⟨i0, hi0, hz0, hz1, hz3⟩ := info_parts infoStr
    have HI := Lib.hid (show _ ∧ _ ∧ _ ∧ _ from ⟨hi0, hz0, hz1, hz3⟩)
    obtain ⟨q0, q1, q2, q3, q4, q5, q6, q7⟩ := (HN1.out.below HB2.out).cells
    clear hck hi0 hz0 hz1 hz3 hc hv0 HIS
    have hx2 : w.heap.size + 2 ≤ w2.heap.size := by have := lt_of_block HRB.out; omega
    have HE0 : Hid ((w2.alloc (.cells #[] 9)).ownsRow (w.heap.size + 2) 9 1 (.slice (some ⟨w2.heap.size, 0, none⟩) 0 0) 0 []) := Lib.hid (World.ownsRow_lit w2 #[] 0 hx2 (by decide) rfl)
    have HX2 := Lib.hid (boxed_below w2 (.cells #[] 9))
    have HL5 := Lib.hid (show (ks.map Value.string).length = ks.length * 1 by rw [List.length_map, Nat.mul_one])
    have HF5 := Lib.hid HFT.out.n.1
    have HN5 := HCN.out _ HX2.out
    have hm5 := HN5.cells.2.2.2.2.2.1
    clear HN5
    go_upto_region 4 with ((with_reducible show wpList _ _ _ (⟨some 27, _, _, _, _, _⟩ :: _) _ _); refine wpList_append_own _ rfl (.tmp 24) (.tmp 26) 22 rfl (w.heap.size + 2) 9 i0 (.string ⟨#[]⟩) 1 16 Try.underlying22 HI.out.1 HI.out.2.1 HI.out.2.2.1 HI.out.2.2.2 rfl (by decide) _ 0 [] rfl HE0.out gk ks.length ck (ks.map Value.string) rfl HL5.out (HSRC.out _ (HBW.out.trans (HX2.out.mono HBW.out.size))) (ones_map ks) (by have := HF5.out; unfold maxLen; omega) (by have := HF5.out; omega) (Nat.le_trans hx2 HX2.out.size) ?_; intro v3 w3 hown3 hgrow3 _; have HO3 := Lib.hid hown3; have HG3 := Lib.hid hgrow3; clear hown3 hgrow3 q0 q1 q2 q3 q4 q5 q6 q7 hm5)
    have hform := own_some HO3.out (by omega)
    obtain ⟨g, cap, hv3, hg3⟩ := hform
    rw [Nat.zero_add] at hv3
    subst hv3
    have HO3' : Hid (w3.ownsRow (w.heap.size + 2) 9 1 (.slice (some ⟨g, 0, none⟩) ks.length cap) ks.length (ks.map Value.string)) := Lib.hid (by have h := HO3.out; rw [Nat.zero_add, List.nil_append] at h; exact h)
    have HB3 : Hid (Below w2.heap.size w2 w3) := Lib.hid (HX2.out.grown HG3.out HX2.out.size (fun k hk => by
      injection hk with hk
      rw [← hk]
      exact Nat.le_refl _))
    clear HO3 HG3 HE0 HX2 HSRC
    -- the store
    have e3 : w3.cell? ⟨g, a, none⟩ = some (.string (nth ks a)) := by
      rw [HO3'.out.cellAt a (by omega), List.getElem?_map, List.getElem?_eq_getElem halt, nth_eq halt]; rfl
    have f3 := HO3'.out.frozenAt a
    have HST := Lib.hid (HO3'.out.stored a (.string low))
    have hai : (a : Int) < ks.length := by omega
    go_upto_region 5 with fail
    clear e3 f3
    obtain ⟨w4, hw4⟩ : ∃ w4, w4 = w3.setCell ⟨g, a, none⟩ (.string low) := ⟨_, rfl⟩
    rw [← hw4] at HST ⊢
    have HO4 : Hid (w4.ownsRow (w.heap.size + 2) 9 1 (.slice (some ⟨g, 0, none⟩) ks.length cap) ks.length ((ks.set a low).map Value.string)) := Lib.hid (by rw [List.map_set]; exact HST.out.1)
    have HIT := Lib.hid (own_inT HO3'.out)
    have HB4 : Hid (Below w.heap.size w w4) := Lib.hid ((HBW.out.trans (HB3.out.mono HBW.out.size)).grown HST.out.2 (Nat.le_trans (Nat.le_trans (by omega) hx2) HB3.out.size) (fun k hk => by injection hk with hk; omega))
    have HN4 := Lib.hid ((HCN.out _ HB3.out).grown HST.out.2 (fun k hk => HIT.out k (by rw [← hk]; rfl)) (by decide))
    have HR4 : Hid (NB w4 (w.heap.size + 1) #[.int .i64 0, .string ⟨#[]⟩, .string ⟨#[]⟩, .bool false, .int .i64 0, .slice none 0 0, .slice none 0 0, .slice none 0 0]) := Lib.hid ((HRB.out.below HB3.out).grown HST.out.2 (fun k hk => HIT.out k (by rw [← hk]; rfl)) (by decide))
    clear HO3' HIT HST hw4 HCN HB3
    have e5 := HN4.out.cells.2.2.2.2.2.1
    have f5 := HN4.out.frozen 5
    go_upto_region 6 with fail
    clear e5 f5
    obtain ⟨w5, hw5⟩ : ∃ w5, w5 = w4.setCell ⟨w.heap.size, 5, none⟩ (.slice (some ⟨g, 0, none⟩) ks.length cap) := ⟨_, rfl⟩
    rw [← hw5]
    have g5 := grown_set w4 w.heap.size 5 (.slice (some ⟨g, 0, none⟩) ks.length cap)
    rw [← hw5] at g5
    have HO5 : Hid (w5.ownsRow (w.heap.size + 2) 9 1 (.slice (some ⟨g, 0, none⟩) ks.length cap) ks.length ((ks.set a low).map Value.string)) := Lib.hid (own_keeps HO4.out g5 (nb_inT HN4.out) (by decide))
    have HN5 : Hid (NB w5 w.heap.size #[.int .i64 lv, .string lo, .string hi, .bool la, .int .i64 nx, .slice (some ⟨g, 0, none⟩) ks.length cap, .slice av vs.length cv, .slice ac cs.length cc]) := Lib.hid (by rw [hw5]; exact HN4.out.s5 _)
    have HR5 : Hid (NB w5 (w.heap.size + 1) #[.int .i64 0, .string ⟨#[]⟩, .string ⟨#[]⟩, .bool false, .int .i64 0, .slice none 0 0, .slice none 0 0, .slice none 0 0]) := Lib.hid (by rw [hw5]; exact HR4.out.far (p := ⟨w.heap.size, 5, none⟩) (by show w.heap.size + 1 ≠ w.heap.size; omega) _)
    have HB5 : Hid (Below w.heap.size w w5) := Lib.hid (by rw [hw5]; exact HB4.out.setCell (Nat.le_refl _) _)
    have HD5 : Hid (NdAt w5 (some ⟨g, 0, none⟩) av ac ks.length cap vs.length cv cs.length cc (ks.set a low) vs cs) := Lib.hid ⟨rd_of_owns HO5.out, HND.out.v.keep HB5.out, HND.out.c.keep HB5.out⟩
    clear HO4 HN4 HR4 HB4 hw5 g5
    obtain ⟨c, hcb⟩ := bool_or (0 < lv ∧ SoundP lv nx lo hi la ks.length vs.length cs.length (ks.set a low) cs 64)
    have HI5 := Lib.hid (fun ft => rinner_of lv nx lo hi la (some ⟨g, 0, none⟩) av ac ks.length cap vs.length cv cs.length cc (ks.set a low) vs cs c w5 HD5.out ft hcb)
    have HI6 := Lib.hid (HI5.out ⟨HFT.out.lo, HFT.out.hi, fun x hx => by
      rcases List.mem_or_eq_of_mem_set hx with h | rfl
      · exact HFT.out.ks x h
      · exact HKK.out, HFT.out.n⟩)
    have HBC : Hid (b = c) := Lib.hid (by
      have h1 : b = true ↔ c = true := by
        rw [HBB.out, hcb]
        unfold Nod.TurnP
        rw [Int.toNat_natCast]
        have hv := HVN.out
        constructor
        · rintro ⟨_, _, h⟩
          have h2 : SoundP lv nx lo hi la (ks.set a low).length 0 cs.length (ks.set a low) cs 64 := h
          rw [List.length_set] at h2
          rw [hv]
          exact ⟨HS.out.1, h2⟩
        · rintro ⟨_, h⟩
          refine ⟨HS.out, ⟨by omega, by simp only; omega⟩, ?_⟩
          show SoundP lv nx lo hi la (ks.set a low).length 0 cs.length (ks.set a low) cs 64
          rw [List.length_set]
          rw [hv] at h
          exact h
      cases b <;> cases c <;> simp at h1 ⊢)
    clear HI5 hcb HBB
    obtain ⟨q0, q1, q2, q3, q4, q5, q6, q7⟩ := HN5.out.cells
    go_wp2_with fail
    refine HI6.out.mono ?_
    rintro e w6 ⟨rfl, hb6⟩
    have HB6 := Lib.hid hb6
    have HN6 := Lib.hid (HN5.out.below HB6.out)
    have HR6 := Lib.hid (HR5.out.below HB6.out)
    have HBW6 := Lib.hid (HB5.out.trans (HB6.out.mono HB5.out.size))
    clear hb6 q0 q1 q2 q3 q4 q5 q6 q7 HI6
    cases c with
    | false =>
      have HF : Hid (b = false) := HBC
      obtain ⟨t0, t1, t2, t3, t4, t5, t6, t7⟩ := (HR6.out).cells
      have f0 := (HR6.out).frozen 0
      have f1 := (HR6.out).frozen 1
      have f2 := (HR6.out).frozen 2
      have f3 := (HR6.out).frozen 3
      have f4 := (HR6.out).frozen 4
      have f5 := (HR6.out).frozen 5
      have f6 := (HR6.out).frozen 6
      have f7 := (HR6.out).frozen 7
      go_wp2
      refine bodyPost_ret (v := .tuple #[.agg #[.int .i64 0, .string ⟨#[]⟩, .string ⟨#[]⟩, .bool false, .int .i64 0, .slice none 0 0, .slice none 0 0, .slice none 0 0], .bool false]) (by simp [results, Try.results18, go_sem, *]) rfl ?_
      rw [HF.out, Nod.ior_no]
      exact GaveN.d (igave_none (wr5_below (w.heap.size + 1) w.heap.size (by omega) [(0, _), (1, _), (2, _), (3, _), (4, _), (5, _), (6, _), (7, _)] w w6 HBW6.out))
    | true =>
      have HO6 := Lib.hid (own_stays HO5.out HB6.out)
      obtain ⟨q0, q1, q2, q3, q4, q5, q6, q7⟩ := HN6.out.cells
      obtain ⟨t0, t1, t2, t3, t4, t5, t6, t7⟩ := HR6.out.cells
      have f0 := HR6.out.frozen 0
      have f1 := HR6.out.frozen 1
      have f2 := HR6.out.frozen 2
      have f3 := HR6.out.frozen 3
      have f4 := HR6.out.frozen 4
      have f5 := HR6.out.frozen 5
      have f6 := HR6.out.frozen 6
      have f7 := HR6.out.frozen 7
      go_wp2
      refine bodyPost_ret (v := .tuple #[.agg #[.int .i64 lv, .string lo, .string hi, .bool la, .int .i64 nx, .slice (some ⟨g, 0, none⟩) ks.length cap, .slice av vs.length cv, .slice ac cs.length cc], .bool true]) (by simp [results, Try.results18, go_sem, *]) rfl ?_
      have h9 := rd_of_owns (own_wr5 HO6.out HR6.out (by decide) [(0, .int .i64 lv), (1, .string lo), (2, .string hi), (3, .bool la), (4, .int .i64 nx), (5, .slice (some ⟨g, 0, none⟩) ks.length cap), (6, .slice av vs.length cv), (7, .slice ac cs.length cc)])
      have h7 := wr5_below (w.heap.size + 1) w.heap.size (by omega) [(0, .int .i64 lv), (1, .string lo), (2, .string hi), (3, .bool la), (4, .int .i64 nx), (5, .slice (some ⟨g, 0, none⟩) ks.length cap), (6, .slice av vs.length cv), (7, .slice ac cs.length cc)] w w6 HBW6.out
      simp only [wr5] at h9 h7
      rw [HBC.out, Int.toNat_natCast]
      have hvv := rd_vs (HND.out.v.keep h7) HVN.out
      have hcc := HND.out.c.keep h7
      refine ⟨some ⟨g, 0, none⟩, av, ac, cap, cv, cc, ?_, ⟨?_, hvv, hcc⟩, h7⟩
      · show _ = Ending.returned (.tuple #[.agg #[.int .i64 lv, .string lo, .string hi, .bool la, .int .i64 nx, .slice (some ⟨g, 0, none⟩) (ks.set a low).length cap, .slice av 0 cv, .slice ac cs.length cc], .bool true])
        rw [List.length_set, HVN.out]; rfl
      · show Rd _ (.slice (some ⟨g, 0, none⟩) (ks.set a low).length cap) ((ks.set a low).map Value.string)
        rw [List.length_set]; exact h9
end Go.Proofs.Ytjojfkddgdpnlaa
