/- inner.entries: the entries of a node that has as many kids as keys, in a row of their own. Condition: sizes that fit. -/
import Derived.Test.YtjojfkddgdpnlaaInnerMay
import Derived.Test.YtjojfkddgdpnlaaGrowRow
namespace Go.Proofs.Ytjojfkddgdpnlaa
open Go.RowKit

def ecells (es : List (ByteArray × Int)) : List Value := es.flatMap fun p => [.string p.1, .int .i64 p.2]
theorem ecells_len (es : List (ByteArray × Int)) : (ecells es).length = es.length * 2 := by
  unfold ecells
  induction es with
  | nil => rfl
  | cons p es ih => rw [List.flatMap_cons, List.length_append, ih, List.length_cons]; simp; omega
theorem ecells_append (a b : List (ByteArray × Int)) : ecells (a ++ b) = ecells a ++ ecells b := by unfold ecells; rw [List.flatMap_append]
theorem ecells_ones (es : List (ByteArray × Int)) : ∀ u ∈ ecells es, u.oneCell' = true := by
  intro u hu
  unfold ecells at hu
  obtain ⟨p, _, h⟩ := List.mem_flatMap.1 hu
  simp at h
  rcases h with rfl | rfl <;> rfl
def nte (es : List (ByteArray × Int)) (i : Nat) : ByteArray × Int := es.getD i (⟨#[]⟩, 0)
theorem nte_eq {es : List (ByteArray × Int)} {i : Nat} (h : i < es.length) : nte es i = es[i] := by
  unfold nte
  rw [List.getD_eq_getElem?_getD, List.getElem?_eq_getElem h]; rfl
theorem ecells_get (es : List (ByteArray × Int)) (j : Nat) (hj : j < es.length) : (ecells es)[j * 2]? = some (.string (nte es j).1) ∧ (ecells es)[j * 2 + 1]? = some (.int .i64 (nte es j).2) := by
  induction es generalizing j with
  | nil => simp at hj
  | cons p es ih =>
    cases j with
    | zero => exact ⟨rfl, rfl⟩
    | succ j =>
      have h := ih j (by simpa using hj)
      have e1 : ecells (p :: es) = .string p.1 :: .int .i64 p.2 :: ecells es := rfl
      have e2 : nte (p :: es) (j + 1) = nte es j := rfl
      rw [e1, e2, show (j + 1) * 2 = j * 2 + 1 + 1 by omega, List.getElem?_cons_succ, List.getElem?_cons_succ, List.getElem?_cons_succ, List.getElem?_cons_succ]
      exact h

/-- The entries of two rows. -/
def ents (ks : List ByteArray) (cs : List Int) : List (ByteArray × Int) := List.zipWith (fun (k : ByteArray) (c : Int) => (k, c)) ks cs
theorem ents_len {ks : List ByteArray} {cs : List Int} (h : cs.length = ks.length) : (ents ks cs).length = ks.length := by
  unfold ents; rw [List.length_zipWith, h, Nat.min_self]
theorem ents_at {ks : List ByteArray} {cs : List Int} (h : cs.length = ks.length) (i : Nat) (hi : i < ks.length) : nte (ents ks cs) i = (nth ks i, ni cs i) := by
  rw [nte_eq (by rw [ents_len h]; exact hi), nth_eq hi, ni_eq (by omega)]
  unfold ents
  rw [List.getElem_zipWith]
theorem ents_keys {ks : List ByteArray} {cs : List Int} (h : cs.length = ks.length) : (ents ks cs).map (·.1) = ks := by
  unfold ents
  rw [List.map_zipWith]
  apply List.ext_getElem
  · rw [List.length_zipWith]; omega
  · intro i h1 h2
    rw [List.getElem_zipWith]
theorem ents_kids {ks : List ByteArray} {cs : List Int} (h : cs.length = ks.length) : (ents ks cs).map (·.2) = cs := by
  unfold ents
  rw [List.map_zipWith]
  apply List.ext_getElem
  · rw [List.length_zipWith]; omega
  · intro i h1 h2
    rw [List.getElem_zipWith]

theorem infoEntry : (Try.prog.info? 101).map (fun i => (i.zero, i.size, i.bytes)) = some (some (.agg #[.string ⟨#[]⟩, .int .i64 0]), 2, 24) := by kernel_rfl

theorem set_two {α : Type} (X Z : List α) (a b : α) (h : 2 ≤ Z.length) : ((X ++ Z).set X.length a).set (X.length + 1) b = X ++ [a, b] ++ Z.drop 2 := by
  rcases Z with _ | ⟨y1, _ | ⟨y2, Z⟩⟩
  · simp at h
  · simp at h
  · simp
theorem ent_step (es : List (ByteArray × Int)) (zs : List Value) (i : Nat) (hi : i < es.length) (hz : zs.length = es.length * 2) :
    ((ecells (es.take i) ++ zs.drop (i * 2)).set (i * 2) (.string (nte es i).1)).set (i * 2 + 1) (.int .i64 (nte es i).2) = ecells (es.take (i + 1)) ++ zs.drop ((i + 1) * 2) := by
  have hl : (ecells (es.take i)).length = i * 2 := by rw [ecells_len, List.length_take]; omega
  have := set_two (ecells (es.take i)) (zs.drop (i * 2)) (.string (nte es i).1) (.int .i64 (nte es i).2) (by rw [List.length_drop]; omega)
  rw [hl] at this
  rw [this, List.take_succ_eq_append_getElem hi, ecells_append, List.drop_drop, ← nte_eq hi]
  rw [show i * 2 + 2 = (i + 1) * 2 by omega]
  rfl

/-- A row of entries, whole in a block. -/
def RowE (w : World) (g : Nat) (es : List (ByteArray × Int)) : Prop := Whole w 101 g (ecells es)

set_option maxHeartbeats 2000000 in
set_option maxRecDepth 100000 in
theorem ient_any (lv nx : Int) (lo hi : ByteArray) (la : Bool) (ak av ac : Option Addr) (ck cv cc : Nat) (ks : List ByteArray) (vs : List Nat) (cs : List Int) (w : World) (hN : NdAt w ak av ac ks.length ck vs.length cv cs.length cc ks vs cs) (hv : cs.length = ks.length) (hn : ks.length ≤ 274877906943) :
    Calls Try.prog 61 #[.agg #[.int .i64 lv, .string lo, .string hi, .bool la, .int .i64 nx, .slice ak ks.length ck, .slice av vs.length cv, .slice ac cs.length cc]] w fun e w' => ∃ g : Nat, e = .returned (.slice (some ⟨g, 0, none⟩) ks.length ks.length) ∧ w.heap.size ≤ g ∧ RowE w' g (ents ks cs) ∧ Below w.heap.size w w' := by
  have HB := Lib.hid (boxed_below w (.cells #[.int .i64 lv, .string lo, .string hi, .bool la, .int .i64 nx, .slice ak ks.length ck, .slice av vs.length cv, .slice ac cs.length cc] 26))
  have HNB := Lib.hid (NB.new w #[.int .i64 lv, .string lo, .string hi, .bool la, .int .i64 nx, .slice ak ks.length ck, .slice av vs.length cv, .slice ac cs.length cc])
  obtain ⟨w1, hw1⟩ : ∃ w1, w1 = w.alloc (.cells #[.int .i64 lv, .string lo, .string hi, .bool la, .int .i64 nx, .slice ak ks.length ck, .slice av vs.length cv, .slice ac cs.length cc] 26) := ⟨_, rfl⟩
  rw [← hw1] at HB HNB
  have HW1 := Lib.hid hw1
  have HSZ : Hid (w1.heap.size = w.heap.size + 1) := Lib.hid (by rw [hw1, World.size_alloc])
  have HND := Lib.hid hN
  have HEL := Lib.hid (ents_len hv)
  have HEA := Lib.hid (fun i hi => ents_at hv i hi)
  have HV := Lib.hid hv
  have HST := Lib.hid (ent_step (ents ks cs))
  obtain ⟨i0, hi, hz0, hz1, hz2⟩ := info_parts infoEntry
  have HI := Lib.hid (show _ ∧ _ ∧ _ ∧ _ from ⟨hi, hz0, hz1, hz2⟩)
  have q5 := HNB.out.cells.2.2.2.2.2.1
  clear hN hv hi hz0 hz1 hz2 hw1
  generalize ents ks cs = es at *
  go_enter Try.func61, Try.ntmps61
  go_upto_region 1 with fail
  rw [← HW1.out]
  go_wp2_with (refine wpList_make_full _ rfl (.tmp 8) (.tmp 8) 96 rfl w1.heap.size 101 i0 (.agg #[.string ⟨#[]⟩, .int .i64 0]) 2 Try.underlying96 HI.out.1 HI.out.2.1 HI.out.2.2.1 .i64 .i64 _ _ ks.length rfl rfl rfl rfl (by rw [HI.out.2.2.2]; omega) (by unfold maxLen; omega) (Nat.le_refl _) ?_; intro w2 hown hgrow; have n2 := (HNB.out.grown hgrow (t' := 0) (fun _ h => by cases h) (by decide)); obtain ⟨q0, q1, qq2, q3, q4, r5, q6, q7⟩ := n2.cells)
  have hb1 : Below w1.heap.size w1 w2 := (Below.refl _ _).grown hgrow (Nat.le_refl _) (fun _ h => by cases h)
  obtain ⟨zs, hzs, hzl⟩ : ∃ zs : List Value, Whole w2 101 w1.heap.size zs ∧ zs.length = ks.length * 2 := by
    rcases hown.2 with ⟨e, hz⟩ | ⟨g', cap, cur, e, _, hg, _, _, hsz, _⟩
    · injection e with e _ _; cases e
    · injection e with e1 e2 e3
      injection e1 with e1
      injection e1 with e1 _ _
      subst e1
      subst e3
      exact ⟨cur.toList, by unfold Whole; exact hg, by simpa using hsz⟩
  have HZ := Lib.hid hzl
  have HNB2 := Lib.hid n2
  have HW2 : Hid (Whole w2 101 w1.heap.size (ecells (es.take 0) ++ zs.drop (0 * 2))) := Lib.hid (by simpa [ecells] using hzs)
  have HB2 := Lib.hid (HB.out.trans (hb1.mono HB.out.size))
  clear hown hgrow hb1 hzs hzl n2
  have hgb : w.heap.size ≠ w1.heap.size := by have := HSZ.out; omega
  go_loopw [13] (fun s wr => ∃ i : Nat, s = .int .i64 i ∧ i ≤ ks.length ∧ Hid (Whole wr 101 w1.heap.size (ecells (es.take i) ++ zs.drop (i * 2))) ∧ Hid (NB wr w.heap.size #[.int .i64 lv, .string lo, .string hi, .bool la, .int .i64 nx, .slice ak ks.length ck, .slice av vs.length cv, .slice ac cs.length cc]) ∧ Hid (Below w.heap.size w wr)) (fun s _ => ks.length - (intOf s).toNat)
  case atStart => exact ⟨0, rfl, Nat.zero_le _, HW2, HNB2, HB2⟩
  case round =>
    obtain ⟨i, rfl, hle, hW, hNB, hb⟩ := hrel
    by_cases hlt : i < ks.length
    · have hlv : i < cs.length := by rw [HV.out]; exact hlt
      obtain ⟨gk, ok, rfl, hck⟩ := rd_at ((HND.out.k).keep hb.out) ⟨#[]⟩ i hlt
      obtain ⟨gc, oc, rfl, hcc⟩ := rd_at ((HND.out.c).keep hb.out) 0 i hlv
      have d1 := hck i hlt
      have d2 := hcc i hlv
      have hst := HST.out zs i (by rw [HEL.out]; exact hlt) (by rw [HEL.out]; exact HZ.out)
      rw [HEA.out i hlt] at hst
      rw [show ks.getD i ⟨#[]⟩ = nth ks i from rfl] at d1
      rw [show cs.getD i 0 = ni cs i from rfl] at d2
      have HST1 := Lib.hid hst
      have g1 : (i : Int) < ks.length := by omega
      have g2 : (i : Int) < cs.length := by omega
      obtain ⟨q0, q1, q2, q3, q4, q5, q6, q7⟩ := hNB.out.cells
      have hcl : (ecells (es.take i) ++ zs.drop (i * 2)).length = ks.length * 2 := by rw [List.length_append, ecells_len, List.length_take, List.length_drop, HEL.out, HZ.out]; omega
      obtain ⟨x1, hx1⟩ : ∃ x, (ecells (es.take i) ++ zs.drop (i * 2))[i * 2]? = some x := ⟨_, List.getElem?_eq_getElem (by omega)⟩
      obtain ⟨x2, hx2⟩ : ∃ x, (ecells (es.take i) ++ zs.drop (i * 2))[i * 2 + 1]? = some x := ⟨_, List.getElem?_eq_getElem (by omega)⟩
      have e1 := (hW.out.cell (i * 2)).trans hx1
      have e2 := (hW.out.cell (i * 2 + 1)).trans hx2
      have f1 : wr.frozen? ⟨w1.heap.size, i * 2, none⟩ = false := by have h := hW.out; unfold Whole at h; simp [World.frozen?, h]
      have f2 : wr.frozen? ⟨w1.heap.size, i * 2 + 1, none⟩ = false := by have h := hW.out; unfold Whole at h; simp [World.frozen?, h]
      have HWA := Lib.hid (fun s z => (hW.out.set_ (i * 2) s).set_ (i * 2 + 1) z)
      have HNA := Lib.hid (fun s z => (hNB.out.far (p := ⟨w1.heap.size, i * 2, none⟩) hgb s).far (p := ⟨w1.heap.size, i * 2 + 1, none⟩) hgb z)
      have HBA := Lib.hid (fun s z => (hb.out.setCell (p := ⟨w1.heap.size, i * 2, none⟩) HB.out.size s).setCell (p := ⟨w1.heap.size, i * 2 + 1, none⟩) HB.out.size z)
      clear hst hck hcc hcl hx1 hx2
      generalize nth ks i = s at *
      generalize ni cs i = z at *
      go_wp2
      go_roundw
      case rel => exact ⟨i + 1, by go_num, by omega, Lib.hid (by rw [← HST1.out]; exact HWA.out _ _), Lib.hid (HNA.out _ _), Lib.hid (HBA.out _ _)⟩
      case measure => simp [intOf]; omega
    · obtain rfl : i = ks.length := by omega
      have HF : Hid (Whole wr 101 w1.heap.size (ecells es)) := Lib.hid (by
        have h := hW.out
        rw [show es.take ks.length = es by rw [← HEL.out]; exact List.take_length, List.drop_of_length_le (by rw [HZ.out]; exact Nat.le_refl _), List.append_nil] at h
        exact h)
      go_wp2
      go_ret
      exact ⟨w1.heap.size, rfl, HB.out.size, HF.out, hb.out⟩
end Go.Proofs.Ytjojfkddgdpnlaa
