/- answer.Write: an answer's bytes, behind what is written; the law's own lives. Conditions: the table of names; a row below the pen's; fewer than 2^20 bytes written. -/
import Derived.Test.YtgckgagnodkhjaaRRRRDoorAnsCheck
import Derived.Test.YtgckgagnodkhjaaRRRRDoorOpWrite
namespace Go.Proofs.YtgckgagnodkhjaaRRRRDoor
open Go.RowKit

/-- While something is written: boxes that stay. -/
structure WA (w W : World) (B pb : Nat) (bs : List (Nat × TypeId × Array Value)) (l : List UInt8) : Prop where
  pen : Pen W B pb l
  bx : ∀ x ∈ bs, BX W x.1 x.2.1 x.2.2 ∧ x.1 ≠ pb ∧ some x.1 ≠ penRow W pb
  wr : Wr pb w W
section
variable {w W W' : World} {B pb : Nat} {bs : List (Nat × TypeId × Array Value)} {l l' : List UInt8}
theorem WA.step (h : WA w W B pb bs l) (hd : DigitsDone W W' B pb l') : WA w W' B pb bs l' := by
  obtain ⟨hp, hw⟩ := hd
  refine ⟨hp, fun x hx => ?_, h.wr.trans hw⟩
  obtain ⟨h1, h2, h3⟩ := h.bx x hx
  have h0 := lt_of_block h1
  refine ⟨(hw.block x.1 h0 h2 h3).trans h1, h2, ?_⟩
  rcases hw.row with e | ⟨g, e, hg⟩
  · rw [e]; exact h3
  · rw [e]; intro e2; injection e2 with e2; omega
theorem WA.under (h : WA w W B pb bs l) (hb : Below W.heap.size W W') : WA w W' B pb bs l :=
  ⟨h.pen.under hb, fun x hx => by obtain ⟨h1, h2, h3⟩ := h.bx x hx; exact ⟨h1.below hb, h2, by rw [penRow_under h.pen hb]; exact h3⟩, h.wr.trans (Wr.under h.pen hb)⟩
theorem WA.add (h : WA w W B pb bs l) (t : TypeId) (cs : Array Value) : WA w (W.alloc (.cells cs t)) B pb ((W.heap.size, t, cs) :: bs) l := by
  have h2 := h.under (boxed_below W (.cells cs t))
  have hlt := h.pen.lt
  have hrow := h.pen.row
  refine ⟨h2.pen, fun x hx => ?_, h2.wr⟩
  rcases List.mem_cons.1 hx with rfl | hx
  · refine ⟨BX.new _ _ _, by show W.heap.size ≠ pb; omega, ?_⟩
    rw [penRow_under h.pen (boxed_below W (.cells cs t))]
    intro e
    have := (hrow _ e.symm).2.1
    simp only at this
    omega
  · exact h2.bx x hx
theorem WA.tail {x : Nat × TypeId × Array Value} (h : WA w W B pb (x :: bs) l) : WA w W B pb bs l := ⟨h.pen, fun y hy => h.bx y (List.mem_cons_of_mem _ hy), h.wr⟩
theorem WA.head {A : Nat} {t : TypeId} {cs : Array Value} (h : WA w W B pb ((A, t, cs) :: bs) l) : BX W A t cs := (h.bx _ (List.mem_cons_self ..)).1
end

/-- A row of pairs in a block below stays. -/
theorem RdP.low {w w' : World} {B : Nat} {ao : Option Addr} {n c : Nat} {ps : List (ByteArray × Int)} (h : RdP w (.slice ao n c) ps) (hlow : ∀ p, ao = some p → 0 < ps.length → p.block < B) (hb : Below B w w') : RdP w' (.slice ao n c) ps := by
  obtain ⟨ao', c', h1, h2, h3, h4⟩ := h
  refine ⟨ao', c', h1, h2, h3, fun hp => ?_⟩
  obtain ⟨g, o, e, hc⟩ := h4 hp
  refine ⟨g, o, e, fun j hj => ?_⟩
  injection h1 with e1 _ _
  have hg : g < B := hlow ⟨g, o, none⟩ (by rw [e1, e]) hp
  exact ⟨(hb.cell (p := ⟨g, o + j * 2, none⟩) hg).trans (hc j hj).1, (hb.cell (p := ⟨g, o + j * 2 + 1, none⟩) hg).trans (hc j hj).2⟩

theorem num_two (B pb x y : Nat) (l : List UInt8) (w : World) (hx : x < 18446744073709551616) (hy : y < 18446744073709551616) (hl : l.length ≤ 35184372088832) (hpen : Pen w B pb l) (hB : B ≤ w.heap.size) (g : Nat) (hg : g = w.heap.size) :
    Calls Tryd.prog 25 #[.pointer (some ⟨pb, 0, none⟩), .slice (some ⟨g, 0, none⟩) 2 2] (w.alloc (.cells #[.int .u64 x, .int .u64 y] 22)) fun e w' => e = .returned (.tuple #[]) ∧ DigitsDone w w' B pb (l ++ (Lib.uvarint x ++ Lib.uvarint y)) := by
  subst hg
  have hlt := hpen.lt
  refine (penNum_any B pb w.heap.size 2 2 [x, y] l _ (by simpa using ⟨hx, hy⟩) rfl (by omega) hl (hpen.alloc _) (by simp; omega) (by omega) ?_ ?_).mono ?_
  · rw [penRow_alloc hlt]
    intro e
    have := (hpen.row _ e.symm).2.1
    omega
  · intro j hj
    match j, hj with
    | 0, _ => exact (World.cell?_alloc_new _ _ _ _).trans (by simp)
    | 1, _ => exact (World.cell?_alloc_new _ _ _ _).trans (by simp)
  · rintro e w' ⟨rfl, hd⟩
    refine ⟨rfl, by simpa [nums] using hd.1, ((Wr.refl _ _).alloc hlt _).trans hd.2⟩

def pairL (p : ByteArray × Int) : List UInt8 := txtL p.1 ++ Lib.uvarint p.2.toNat
/-- A sound answer's bytes. -/
def ansBytesS (k : Int) (key : ByteArray) (v : Nat) (ps : List (ByteArray × Int)) : List UInt8 := Lib.uvarint k.toNat ++ (txtL key ++ ((Lib.uvarint v ++ Lib.uvarint ps.length) ++ ps.flatMap pairL))
/-- An answer's bytes. -/
def ansBytes (k : Int) (key : ByteArray) (v : Nat) (ps : List (ByteArray × Int)) : List UInt8 := if ansSoundB k key ps = true then ansBytesS k key v ps else Lib.uvarint 0

theorem sound_parts17 {k : Int} {key : ByteArray} {ps : List (ByteArray × Int)} (h : ansSoundB k key ps = true) : (1 ≤ k ∧ k ≤ 6) ∧ key.size ≤ 64 ∧ ps.length ≤ 4096 ∧ ∀ i, i < ps.length → (ntp ps i).1.size ≤ 64 := by
  unfold ansSoundB kB txB at h
  simp only [Bool.and_eq_true, decide_eq_true_iff, List.all_eq_true] at h
  refine ⟨h.1.1.1, h.1.1.2, h.1.2, fun i hi => ?_⟩
  rw [ntp_eq hi]
  exact h.2 _ (List.getElem_mem _)
theorem pairL_len {p : ByteArray × Int} (h : p.1.size ≤ 64) (h0 : p.2 < 18446744073709551616) : (pairL p).length ≤ 84 := by
  unfold pairL txtL
  have u1 := Lib.uvarint_length64 (x := p.1.size) (by omega)
  have u2 := Lib.uvarint_length64 (x := p.2.toNat) (by omega)
  rw [List.length_append, List.length_append, size_list]
  omega
theorem pairs_snoc (ps : List (ByteArray × Int)) (j : Nat) (hj : j < ps.length) : (ps.take (j + 1)).flatMap pairL = (ps.take j).flatMap pairL ++ pairL (ntp ps j) := by
  rw [ntp_eq hj, List.take_succ_eq_append_getElem hj, List.flatMap_append]
  simp
theorem pairs_len (ps : List (ByteArray × Int)) (h : ∀ i, i < ps.length → (ntp ps i).1.size ≤ 64 ∧ (ntp ps i).2 < 18446744073709551616) : ∀ j, j ≤ ps.length → ((ps.take j).flatMap pairL).length ≤ 84 * j
  | 0, _ => by simp
  | j + 1, hj => by
    have h1 := h j (by omega)
    have h2 := pairs_len ps h j (by omega)
    have h3 := pairL_len h1.1 h1.2
    rw [pairs_snoc ps j (by omega), List.length_append]
    omega

set_option maxHeartbeats 8000000 in
set_option maxRecDepth 100000 in
theorem ansWrite_any (B pb : Nat) (k : Int) (v : Nat) (key : ByteArray) (ao : Option Addr) (n c : Nat) (ps : List (ByteArray × Int)) (l : List UInt8) (w : World) (hnt : NamesAt17 w) (hr : RdP w (.slice ao n c) ps) (hlow : ∀ p, ao = some p → 0 < ps.length → p.block < B) (hv : v < 18446744073709551616) (hz : ∀ i, i < ps.length → 0 ≤ (ntp ps i).2 ∧ (ntp ps i).2 < 18446744073709551616) (hl : l.length ≤ 1048576) (hpen : Pen w B pb l) (hB : B ≤ w.heap.size) :
    Calls Tryd.prog 14 #[.pointer (some ⟨pb, 0, none⟩), .agg #[.int .i64 k, .string key, .int .u64 (v : Nat), .slice ao n c]] w fun e w' => e = .returned (.tuple #[]) ∧ DigitsDone w w' B pb (l ++ ansBytes k key v ps) := by
  have hn := hr.len
  have hw0 : WA w w B pb [] l := ⟨hpen, (fun x hx => by cases hx), Wr.refl _ _⟩
  have hw1 := hw0.add 25 #[.int .i64 k, .string key, .int .u64 (v : Nat), .slice ao n c]
  have hx := boxed_below w (.cells #[.int .i64 k, .string key, .int .u64 (v : Nat), .slice ao n c] 25)
  obtain ⟨W1, hW1⟩ : ∃ W, W = w.alloc (.cells #[.int .i64 k, .string key, .int .u64 (v : Nat), .slice ao n c] 25) := ⟨_, rfl⟩
  rw [← hW1] at hw1 hx
  have HC := Lib.hid (ansCheck_any k v key ao n c ps W1 (hnt.below hx) (hr.keep hx))
  have HA1 := Lib.hid hw1
  have HW := Lib.hid hW1
  have HR : Hid (∀ W l', WA w W B pb [(w.heap.size, 25, #[.int .i64 k, .string key, .int .u64 (v : Nat), .slice ao n c])] l' → RdP W (.slice ao n c) ps) := Lib.hid (fun W l' h => hr.low hlow (h.wr.below hpen hB))
  have HBW : Hid (∀ W l', WA w W B pb [(w.heap.size, 25, #[.int .i64 k, .string key, .int .u64 (v : Nat), .slice ao n c])] l' → B ≤ W.heap.size) := Lib.hid (fun W l' h => Nat.le_trans hB h.wr.size)
  have HSP := Lib.hid (sound_parts17 (k := k) (key := key) (ps := ps))
  have HZZ := Lib.hid hz
  obtain ⟨R, hR⟩ : ∃ R, R = ansBytes k key v ps := ⟨_, rfl⟩
  rw [← hR]
  unfold ansBytes at hR
  have HRR := Lib.hid hR
  have HN := Lib.hid hn.1
  have hnc := hn.2.1
  have hcc := hn.2.2
  obtain ⟨q0, q1, q2, q3⟩ : W1.cell? ⟨w.heap.size, 0, none⟩ = some (.int .i64 k) ∧ W1.cell? ⟨w.heap.size, 1, none⟩ = some (.string key) ∧ W1.cell? ⟨w.heap.size, 2, none⟩ = some (.int .u64 (v : Nat)) ∧ W1.cell? ⟨w.heap.size, 3, none⟩ = some (.slice ao n c) := ⟨hw1.head.cell 0 rfl, hw1.head.cell 1 rfl, hw1.head.cell 2 rfl, hw1.head.cell 3 rfl⟩
  clear hn hw0 hw1 hx hW1 hR hnt hr hlow hpen hB hz
  generalize ansSoundB k key ps = sd at *
  go_enter Tryd.func14, Tryd.ntmps14
  go_upto_region 1 with fail
  rw [← HW.out]
  clear HW
  go_wp2_with fail
  refine HC.out.mono ?_
  rintro e w2 ⟨rfl, hb2⟩
  have HA2 := Lib.hid (HA1.out.under hb2)
  clear hb2 q0 q1 q2 q3 HC HA1
  have hB2 := HBW.out _ _ HA2.out
  cases sd with
  | false =>
    go_wp2_with fail
    refine (num_one B pb 0 l w2 (by omega) (by omega) HA2.out.pen hB2 _ rfl).mono ?_
    rintro e w3 ⟨rfl, hd3⟩
    go_wp2
    refine bodyPost_ret (v := .tuple #[]) (by simp [results, Tryd.results14, go_sem]) rfl ?_
    refine ⟨rfl, ?_, HA2.out.wr.trans hd3.2⟩
    rw [HRR.out]
    exact hd3.1
  | true =>
  obtain ⟨⟨hk1, hk2⟩, hky, hp9, hps⟩ := HSP.out rfl
  have HPS := Lib.hid hps
  obtain ⟨kn, rfl⟩ : ∃ kn : Nat, k = kn := ⟨k.toNat, by omega⟩
  have hun := Lib.uvarint_length64 (x := kn) (by omega)
  have huk := Lib.uvarint_length64 (x := key.size) (by omega)
  have huv := Lib.uvarint_length64 hv
  have hn9 : n ≤ 4096 := by have := HN.out; omega
  have hul := Lib.uvarint_length64 (x := n) (by omega)
  clear hps hp9 HSP
  obtain ⟨q0, q1, q2, q3⟩ : w2.cell? ⟨w.heap.size, 0, none⟩ = some (.int .i64 (kn : Nat)) ∧ w2.cell? ⟨w.heap.size, 1, none⟩ = some (.string key) ∧ w2.cell? ⟨w.heap.size, 2, none⟩ = some (.int .u64 (v : Nat)) ∧ w2.cell? ⟨w.heap.size, 3, none⟩ = some (.slice ao n c) := ⟨HA2.out.head.cell 0 rfl, HA2.out.head.cell 1 rfl, HA2.out.head.cell 2 rfl, HA2.out.head.cell 3 rfl⟩
  go_wp2_with fail
  refine (num_one B pb kn l _ (by omega) (by omega) HA2.out.pen hB2 _ rfl).mono ?_
  rintro e w3 ⟨rfl, hd3⟩
  have HA3 := Lib.hid (HA2.out.step hd3)
  have hB3 := HBW.out _ _ HA3.out
  clear hd3 q0 q1 q2 q3
  obtain ⟨q0, q1, q2, q3⟩ : w3.cell? ⟨w.heap.size, 0, none⟩ = some (.int .i64 (kn : Nat)) ∧ w3.cell? ⟨w.heap.size, 1, none⟩ = some (.string key) ∧ w3.cell? ⟨w.heap.size, 2, none⟩ = some (.int .u64 (v : Nat)) ∧ w3.cell? ⟨w.heap.size, 3, none⟩ = some (.slice ao n c) := ⟨HA3.out.head.cell 0 rfl, HA3.out.head.cell 1 rfl, HA3.out.head.cell 2 rfl, HA3.out.head.cell 3 rfl⟩
  go_wp2_with fail
  refine (penText_any B pb key _ _ (by omega) (by rw [List.length_append]; omega) HA3.out.pen hB3).mono ?_
  rintro e w4 ⟨rfl, hd4⟩
  have HA4 := Lib.hid (HA3.out.step hd4)
  have hB4 := HBW.out _ _ HA4.out
  clear hd4 q0 q1 q2 q3
  obtain ⟨q0, q1, q2, q3⟩ : w4.cell? ⟨w.heap.size, 0, none⟩ = some (.int .i64 (kn : Nat)) ∧ w4.cell? ⟨w.heap.size, 1, none⟩ = some (.string key) ∧ w4.cell? ⟨w.heap.size, 2, none⟩ = some (.int .u64 (v : Nat)) ∧ w4.cell? ⟨w.heap.size, 3, none⟩ = some (.slice ao n c) := ⟨HA4.out.head.cell 0 rfl, HA4.out.head.cell 1 rfl, HA4.out.head.cell 2 rfl, HA4.out.head.cell 3 rfl⟩
  go_wp2_with fail
  refine (num_two B pb v n _ _ hv (by omega) (by rw [List.length_append, List.length_append, List.length_append, size_list]; omega) HA4.out.pen hB4 _ rfl).mono ?_
  rintro e w5 ⟨rfl, hd5⟩
  have HA5 := Lib.hid (HA4.out.step hd5)
  have hB5 := HBW.out _ _ HA5.out
  clear hd5 q0 q1 q2 q3
  obtain ⟨q0, q1, q2, q3⟩ : w5.cell? ⟨w.heap.size, 0, none⟩ = some (.int .i64 (kn : Nat)) ∧ w5.cell? ⟨w.heap.size, 1, none⟩ = some (.string key) ∧ w5.cell? ⟨w.heap.size, 2, none⟩ = some (.int .u64 (v : Nat)) ∧ w5.cell? ⟨w.heap.size, 3, none⟩ = some (.slice ao n c) := ⟨HA5.out.head.cell 0 rfl, HA5.out.head.cell 1 rfl, HA5.out.head.cell 2 rfl, HA5.out.head.cell 3 rfl⟩
  obtain ⟨L5, hL5⟩ : ∃ L, L = ((l ++ Lib.uvarint kn) ++ (Lib.uvarint key.size ++ key.data.toList)) ++ (Lib.uvarint v ++ Lib.uvarint n) := ⟨_, rfl⟩
  rw [← hL5] at HA5
  have hL5n : L5.length ≤ 1048576 + 200 := by
    rw [hL5, List.length_append, List.length_append, List.length_append, List.length_append, List.length_append, size_list]; omega
  have HL5 := Lib.hid hL5
  have HPL : Hid (∀ j, j ≤ n → ((ps.take j).flatMap pairL).length ≤ 84 * j) := Lib.hid (fun j hj => pairs_len ps (fun i hi => ⟨HPS.out i hi, (HZZ.out i hi).2⟩) j (by have := HN.out; omega))
  clear hL5 huk hun huv hul
  go_wp2
  go_loopw [34] (fun vj wr => ∃ j : Nat, vj = .int .i64 j ∧ j ≤ n ∧ Hid (WA w wr B pb [(w.heap.size, 25, #[.int .i64 (kn : Nat), .string key, .int .u64 (v : Nat), .slice ao n c])] (L5 ++ (ps.take j).flatMap pairL))) (fun vj _ => n - (intOf vj).toNat)
  case atStart => exact ⟨0, rfl, Nat.zero_le _, Lib.hid (by rw [List.take_zero, List.flatMap_nil, List.append_nil]; exact HA5.out)⟩
  case round =>
    obtain ⟨j, rfl, hj, hwa⟩ := hrel
    by_cases hlt : j < n
    · have hjp : j < ps.length := by have := HN.out; omega
      obtain ⟨g, o, rfl, hc⟩ := (HR.out _ _ hwa.out).at_ j hlt
      have e1 := (hc j hlt).1
      have e2 := (hc j hlt).2
      have hs := HPS.out j hjp
      have hz := HZZ.out j hjp
      have hpl := HPL.out j hj
      have HSN := Lib.hid (pairs_snoc ps j hjp)
      have HLN : Hid ((L5 ++ (ps.take j).flatMap pairL).length ≤ 2097152) := Lib.hid (by rw [List.length_append]; omega)
      have hBw := HBW.out _ _ hwa.out
      clear hc hpl
      generalize ntp ps j = p at *
      obtain ⟨s, z⟩ := p
      simp only at e1 e2 hs hz HSN
      obtain ⟨zn, rfl⟩ : ∃ zn : Nat, z = zn := ⟨z.toNat, by omega⟩
      have hus := Lib.uvarint_length64 (x := s.size) (by omega)
      obtain ⟨W6, hW6⟩ : ∃ W, W = wr.alloc (.cells #[.string s, .int .u64 (zn : Nat)] 32) := ⟨_, rfl⟩
      have HA6 := Lib.hid (hwa.out.add 32 #[.string s, .int .u64 (zn : Nat)])
      rw [← hW6] at HA6
      have HW6 := Lib.hid hW6
      have hB6 := Nat.le_trans hBw (show wr.heap.size ≤ W6.heap.size by rw [hW6, World.size_alloc]; omega)
      have r0 : W6.cell? ⟨wr.heap.size, 0, none⟩ = some (.string s) := HA6.out.head.cell 0 rfl
      have r1 : W6.cell? ⟨wr.heap.size, 1, none⟩ = some (.int .u64 (zn : Nat)) := HA6.out.head.cell 1 rfl
      clear hW6
      go_upto_region 9 with fail
      rw [← HW6.out]
      clear HW6
      obtain ⟨gb, hgb⟩ : ∃ gb, gb = wr.heap.size := ⟨_, rfl⟩
      rw [← hgb] at HA6 r0 r1 ⊢
      clear hgb
      go_wp2_with fail
      refine (penText_any B pb s _ _ (by omega) (by have := HLN.out; omega) HA6.out.pen hB6).mono ?_
      rintro e w7 ⟨rfl, hd7⟩
      have HA7 := Lib.hid (HA6.out.step hd7)
      have hB7 := Nat.le_trans hB6 hd7.2.size
      clear hd7 r0 r1
      have r1 : w7.cell? ⟨gb, 1, none⟩ = some (.int .u64 (zn : Nat)) := HA7.out.head.cell 1 rfl
      go_wp2_with fail
      refine (num_one B pb zn _ _ (by omega) (by have := HLN.out; simp only [List.length_append, size_list] at this ⊢; omega) HA7.out.pen hB7 _ rfl).mono ?_
      rintro e w8 ⟨rfl, hd8⟩
      have HA8 : Hid (WA w w8 B pb [(w.heap.size, 25, #[.int .i64 (kn : Nat), .string key, .int .u64 (v : Nat), .slice (some ⟨g, o, none⟩) n c])] (L5 ++ (ps.take (j + 1)).flatMap pairL)) := Lib.hid (by
        have h := (HA7.out.step hd8).tail
        have hp : pairL (s, (zn : Int)) = txtL s ++ Lib.uvarint zn := by unfold pairL; rw [Int.toNat_natCast]
        rw [HSN.out, hp]
        simpa only [txtL, List.append_assoc] using h)
      clear hd8
      go_wp2
      go_roundw
      case rel => exact ⟨j + 1, by go_num, by omega, HA8⟩
      case measure => simp [intOf]; omega
    · have hjl : j = n := by omega
      subst hjl
      have HF : Hid (L5 ++ (ps.take j).flatMap pairL = l ++ ansBytesS (kn : Nat) key v ps) := Lib.hid (by
        rw [List.take_of_length_le (by have := HN.out; omega), HL5.out]
        unfold ansBytesS txtL
        rw [← HN.out]
        simp only [Int.toNat_natCast, List.append_assoc])
      go_wp2
      go_end0
      refine ⟨rfl, ?_, hwa.out.wr⟩
      have hfin := hwa.out.pen
      rw [HF.out] at hfin
      rw [HRR.out]
      exact hfin

theorem lives_bytes17 : ansBytes 1 ⟨#[]⟩ 5 [] = [1, 0, 5, 0] := by
  have u1 : Lib.uvarint 1 = [1] := Lib.uvarint_small (by omega)
  have u5 : Lib.uvarint 5 = [5] := Lib.uvarint_small (by omega)
  have u0 : Lib.uvarint 0 = [0] := Lib.uvarint_small (by omega)
  unfold ansBytes
  rw [if_pos (by kernel_rfl)]
  show Lib.uvarint 1 ++ ((Lib.uvarint 0 ++ []) ++ ((Lib.uvarint 5 ++ Lib.uvarint 0) ++ [])) = _
  rw [u1, u5, u0]; rfl
end Go.Proofs.YtgckgagnodkhjaaRRRRDoor
