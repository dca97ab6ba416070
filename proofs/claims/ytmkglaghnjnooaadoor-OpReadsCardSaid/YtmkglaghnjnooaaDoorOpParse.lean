/- op.parse: what comes next is read, by a plain function of what is left and the fault. Condition: what has a fault has no bytes. -/
import Derived.Test.YtmkglaghnjnooaaDoorOpEye
namespace Go.Proofs.YtmkglaghnjnooaaDoor
open Go.RowKit

theorem rnum_le (m : Nat) (bs : List UInt8) : (rnum m bs).1 ≤ m := by
  unfold rnum
  simp only
  split
  · exact Nat.zero_le _
  · rename_i h
    split
    · rename_i h2
      rcases Nat.lt_or_ge m (gat 9 0 0 bs).1 with h3 | h3
      · exact absurd ⟨h2, h3⟩ h
      · exact h3
    · exact Nat.zero_le _
theorem eN_le (m : Nat) (s : ES) : (eN m s).1 ≤ m := by
  unfold eN
  split
  · exact rnum_le _ _
  · exact Nat.zero_le _
theorem eT_size (m : Nat) (s : ES) : (eT m s).1.size ≤ m := by
  unfold eT
  split
  · split
    · split
      · exact Nat.zero_le _
      · split
        · exact Nat.zero_le _
        · rename_i h1 h2
          show (List.toArray _).size ≤ m
          rw [List.size_toArray, List.length_take]
          omega
    · exact Nat.zero_le _
  · exact Nat.zero_le _

/-- What comes next, as far as its kind uses it. -/
def parseU (bk bt bv : Bool) (n : Nat) (s : ES) : OpV × ES :=
  let b := if bk = true then eT 64 s else (⟨#[]⟩, s)
  let c := if bt = true then eT 64 b.2 else (⟨#[]⟩, b.2)
  let d := if bv = true then eN 18446744073709551615 c.2 else (0, c.2)
  let e := if bt = true then eN 4096 d.2 else (0, d.2)
  (⟨n, b.1, c.1, d.1, e.1⟩, e.2)
def parseF (s : ES) : OpV × ES := parseU (usK (eN 10 s).1) (usT (eN 10 s).1) (usV (eN 10 s).1) (eN 10 s).1 (eN 10 s).2
def OpV.arr (x : OpV) : Array Value := #[.int .i64 x.k, .string x.key, .string x.tx, .int .u64 (x.v : Nat), .int .i64 x.lim]

theorem EyeS.far {W : World} {eb A : Nat} {s : ES} {a e : Int} {b c : ByteArray} {d : Int} (h : EyeS W eb s) (hA : BX W A 24 #[.int .i64 a, .string b, .string c, .int .u64 d, .int .i64 e]) (hne : A ≠ eb) (i : Nat) (u : Value) : EyeS (W.setCell ⟨A, i, none⟩ u) eb s := by
  obtain ⟨⟨v, h1, ao, cc, h2, h3, h4, h5⟩, h6⟩ := h
  refine ⟨⟨v, (Below.heap_setCell W ⟨A, i, none⟩ u eb (fun e => hne e.symm)).trans h1, ao, cc, h2, h3, h4, fun hb => ?_⟩, h6⟩
  obtain ⟨g, o, e1, hg, hc⟩ := h5 hb
  refine ⟨g, o, e1, hg, fun j hj => ?_⟩
  have hgA : g ≠ A := by
    intro e2
    subst e2
    have := hc j hj
    unfold BX at hA
    simp only [World.cell?, hA] at this
    match hi : o + j, this with
    | 0, this => simp at this
    | 1, this => simp at this
    | 2, this => simp at this
    | 3, this => simp at this
    | 4, this => simp at this
    | (n + 5), this => simp at this
  rw [World.cell?_of_block (w := W) (a := ⟨g, o + j, none⟩) (Below.heap_setCell W ⟨A, i, none⟩ u g hgA)]
  exact hc j hj
theorem EyeS.under {w w' : World} {eb : Nat} {s : ES} (h : EyeS w eb s) (hb : Below w.heap.size w w') : EyeS w' eb s := ⟨h.1.keep hb, h.2⟩
theorem EyeS.lt {w : World} {eb : Nat} {s : ES} (h : EyeS w eb s) : eb < w.heap.size := by obtain ⟨⟨_, h, _⟩, _⟩ := h; exact lt_of_block h
theorem ew_of_below {w w' : World} {eb : Nat} (hb : Below w.heap.size w w') : Ew eb w w' := ⟨hb.os, hb.tape, hb.output, hb.size, fun k hk _ => hb.block k hk⟩
theorem Ew.far {eb A : Nat} {w W : World} (h : Ew eb w W) (hA : w.heap.size ≤ A) (i : Nat) (u : Value) : Ew eb w (W.setCell ⟨A, i, none⟩ u) :=
  ⟨h.os, h.tape, h.output, by simp [World.setCell]; exact h.size, fun k hk hne => (Below.heap_setCell W ⟨A, i, none⟩ u k (by show k ≠ A; omega)).trans (h.block k hk hne)⟩

/-- While it reads: the result's box, the operation's, its parts'. -/
structure PAt (w W : World) (eb A2 A3 A4 : Nat) (s : ES) (k : Int) (key tx : ByteArray) (v lim : Int) (ps : Array Value) : Prop where
  eye : EyeS W eb s
  res : BX W A2 24 #[.int .i64 0, .string ⟨#[]⟩, .string ⟨#[]⟩, .int .u64 0, .int .i64 0]
  op : BX W A3 24 #[.int .i64 k, .string key, .string tx, .int .u64 v, .int .i64 lim]
  pa : BX W A4 53 ps
  ew : Ew eb w W
  ge : w.heap.size ≤ A2 ∧ w.heap.size ≤ A3
  ne : A2 ≠ eb ∧ A3 ≠ eb ∧ A4 ≠ eb ∧ A3 ≠ A2 ∧ A3 ≠ A4
theorem PAt.step {w W W' : World} {eb A2 A3 A4 : Nat} {s s' : ES} {k : Int} {key tx : ByteArray} {v lim : Int} {ps : Array Value} (h : PAt w W eb A2 A3 A4 s k key tx v lim ps) (hr : ReadS W W' eb s') : PAt w W' eb A2 A3 A4 s' k key tx v lim ps :=
  ⟨hr.1, (hr.2.block A2 (lt_of_block h.res) h.ne.1).trans h.res, (hr.2.block A3 (lt_of_block h.op) h.ne.2.1).trans h.op, (hr.2.block A4 (lt_of_block h.pa) h.ne.2.2.1).trans h.pa, h.ew.trans hr.2, h.ge, h.ne⟩
theorem PAt.set1 {w W : World} {eb A2 A3 A4 : Nat} {s : ES} {k : Int} {key tx : ByteArray} {v lim : Int} {ps : Array Value} (h : PAt w W eb A2 A3 A4 s k key tx v lim ps) (x : ByteArray) : PAt w (W.setCell ⟨A3, 1, none⟩ (.string x)) eb A2 A3 A4 s k x tx v lim ps :=
  ⟨h.eye.far h.op h.ne.2.1 _ _, (Below.heap_setCell W ⟨A3, 1, none⟩ _ A2 (fun e => h.ne.2.2.2.1 e.symm)).trans h.res, heap_setCell_same W A3 1 _ _ _ h.op, (Below.heap_setCell W ⟨A3, 1, none⟩ _ A4 (fun e => h.ne.2.2.2.2 e.symm)).trans h.pa, h.ew.far h.ge.2 _ _, h.ge, h.ne⟩
theorem PAt.set2 {w W : World} {eb A2 A3 A4 : Nat} {s : ES} {k : Int} {key tx : ByteArray} {v lim : Int} {ps : Array Value} (h : PAt w W eb A2 A3 A4 s k key tx v lim ps) (x : ByteArray) : PAt w (W.setCell ⟨A3, 2, none⟩ (.string x)) eb A2 A3 A4 s k key x v lim ps :=
  ⟨h.eye.far h.op h.ne.2.1 _ _, (Below.heap_setCell W ⟨A3, 2, none⟩ _ A2 (fun e => h.ne.2.2.2.1 e.symm)).trans h.res, heap_setCell_same W A3 2 _ _ _ h.op, (Below.heap_setCell W ⟨A3, 2, none⟩ _ A4 (fun e => h.ne.2.2.2.2 e.symm)).trans h.pa, h.ew.far h.ge.2 _ _, h.ge, h.ne⟩
theorem PAt.set3 {w W : World} {eb A2 A3 A4 : Nat} {s : ES} {k : Int} {key tx : ByteArray} {v lim : Int} {ps : Array Value} (h : PAt w W eb A2 A3 A4 s k key tx v lim ps) (x : Int) : PAt w (W.setCell ⟨A3, 3, none⟩ (.int .u64 x)) eb A2 A3 A4 s k key tx x lim ps :=
  ⟨h.eye.far h.op h.ne.2.1 _ _, (Below.heap_setCell W ⟨A3, 3, none⟩ _ A2 (fun e => h.ne.2.2.2.1 e.symm)).trans h.res, heap_setCell_same W A3 3 _ _ _ h.op, (Below.heap_setCell W ⟨A3, 3, none⟩ _ A4 (fun e => h.ne.2.2.2.2 e.symm)).trans h.pa, h.ew.far h.ge.2 _ _, h.ge, h.ne⟩
theorem PAt.set4 {w W : World} {eb A2 A3 A4 : Nat} {s : ES} {k : Int} {key tx : ByteArray} {v lim : Int} {ps : Array Value} (h : PAt w W eb A2 A3 A4 s k key tx v lim ps) (x : Int) : PAt w (W.setCell ⟨A3, 4, none⟩ (.int .i64 x)) eb A2 A3 A4 s k key tx v x ps :=
  ⟨h.eye.far h.op h.ne.2.1 _ _, (Below.heap_setCell W ⟨A3, 4, none⟩ _ A2 (fun e => h.ne.2.2.2.1 e.symm)).trans h.res, heap_setCell_same W A3 4 _ _ _ h.op, (Below.heap_setCell W ⟨A3, 4, none⟩ _ A4 (fun e => h.ne.2.2.2.2 e.symm)).trans h.pa, h.ew.far h.ge.2 _ _, h.ge, h.ne⟩

theorem readS_stored {w W : World} {eb : Nat} {s : ES} (hE : EyeS W eb s) (hR : BX W w.heap.size 24 #[.int .i64 0, .string ⟨#[]⟩, .string ⟨#[]⟩, .int .u64 0, .int .i64 0]) (hne : w.heap.size ≠ eb) (hW : Ew eb w W) (a : Int) (b c : ByteArray) (d e : Int) :
    ReadS w (((((W.setCell ⟨w.heap.size, 0, none⟩ (.int .i64 a)).setCell ⟨w.heap.size, 1, none⟩ (.string b)).setCell ⟨w.heap.size, 2, none⟩ (.string c)).setCell ⟨w.heap.size, 3, none⟩ (.int .u64 d)).setCell ⟨w.heap.size, 4, none⟩ (.int .i64 e)) eb s := by
  have b1 : BX (W.setCell ⟨w.heap.size, 0, none⟩ (.int .i64 a)) w.heap.size 24 #[.int .i64 a, .string ⟨#[]⟩, .string ⟨#[]⟩, .int .u64 0, .int .i64 0] := heap_setCell_same W _ 0 _ _ _ hR
  have b2 : BX ((W.setCell ⟨w.heap.size, 0, none⟩ (.int .i64 a)).setCell ⟨w.heap.size, 1, none⟩ (.string b)) w.heap.size 24 #[.int .i64 a, .string b, .string ⟨#[]⟩, .int .u64 0, .int .i64 0] := heap_setCell_same _ _ 1 _ _ _ b1
  have b3 : BX (((W.setCell ⟨w.heap.size, 0, none⟩ (.int .i64 a)).setCell ⟨w.heap.size, 1, none⟩ (.string b)).setCell ⟨w.heap.size, 2, none⟩ (.string c)) w.heap.size 24 #[.int .i64 a, .string b, .string c, .int .u64 0, .int .i64 0] := heap_setCell_same _ _ 2 _ _ _ b2
  have b4 : BX ((((W.setCell ⟨w.heap.size, 0, none⟩ (.int .i64 a)).setCell ⟨w.heap.size, 1, none⟩ (.string b)).setCell ⟨w.heap.size, 2, none⟩ (.string c)).setCell ⟨w.heap.size, 3, none⟩ (.int .u64 d)) w.heap.size 24 #[.int .i64 a, .string b, .string c, .int .u64 d, .int .i64 0] := heap_setCell_same _ _ 3 _ _ _ b3
  exact ⟨((((hE.far hR hne _ _).far b1 hne _ _).far b2 hne _ _).far b3 hne _ _).far b4 hne _ _, ((((hW.far (Nat.le_refl _) _ _).far (Nat.le_refl _) _ _).far (Nat.le_refl _) _ _).far (Nat.le_refl _) _ _).far (Nat.le_refl _) _ _⟩

set_option maxHeartbeats 8000000 in
set_option maxRecDepth 100000 in
theorem parse_any (eb : Nat) (s : ES) (w : World) (he : EyeS w eb s) :
    Calls Tryd.prog 39 #[.pointer (some ⟨eb, 0, none⟩)] w fun e w' => e = .returned (.agg (parseF s).1.arr) ∧ ReadS w w' eb (parseF s).2 := by
  obtain ⟨R, hR⟩ : ∃ R, R = parseF s := ⟨_, rfl⟩
  rw [← hR]
  unfold parseF at hR
  have n2 := BX.new w 24 #[.int .i64 0, .string ⟨#[]⟩, .string ⟨#[]⟩, .int .u64 0, .int .i64 0]
  have hx1 := boxed_below w (.cells #[.int .i64 0, .string ⟨#[]⟩, .string ⟨#[]⟩, .int .u64 0, .int .i64 0] 24)
  obtain ⟨W1, hW1⟩ : ∃ W, W = w.alloc (.cells #[.int .i64 0, .string ⟨#[]⟩, .string ⟨#[]⟩, .int .u64 0, .int .i64 0] 24) := ⟨_, rfl⟩
  rw [← hW1] at n2 hx1
  have HNU := Lib.hid (eyeNumF eb 10 s W1 (he.under hx1))
  have hn10 := eN_le 10 s
  have HLT := Lib.hid he.lt
  rcases hQ : eN 10 s with ⟨n, s1⟩
  rw [hQ] at hR HNU hn10
  simp only at hR hn10
  have HN2 := Lib.hid n2
  have HX1 := Lib.hid hx1
  have HW1 := Lib.hid hW1
  have HU := Lib.hid (fun W => used_any (n : Int) W)
  unfold partsV at HU
  have HR := Lib.hid hR
  clear n2 hx1 hW1 hR hQ he
  generalize usI (n : Int) = bi at *
  generalize usK (n : Int) = bk at *
  generalize usV (n : Int) = bv at *
  generalize usT (n : Int) = bt at *
  go_enter Tryd.func39, Tryd.ntmps39
  go_upto_region 1 with fail
  rw [← HW1.out]
  clear HW1
  go_wp2_with fail
  refine HNU.out.mono ?_
  rintro e w2 ⟨rfl, hr2⟩
  have m3 := BX.new w2 24 #[.int .i64 (n : Nat), .string ⟨#[]⟩, .string ⟨#[]⟩, .int .u64 0, .int .i64 0]
  have hx3 := boxed_below w2 (.cells #[.int .i64 (n : Nat), .string ⟨#[]⟩, .string ⟨#[]⟩, .int .u64 0, .int .i64 0] 24)
  obtain ⟨W3, hW3⟩ : ∃ W, W = w2.alloc (.cells #[.int .i64 (n : Nat), .string ⟨#[]⟩, .string ⟨#[]⟩, .int .u64 0, .int .i64 0] 24) := ⟨_, rfl⟩
  rw [← hW3] at m3 hx3
  have h2s := hr2.2.size
  have hlt2 := lt_of_block HN2.out
  have HE3 : Hid (EyeS W3 eb s1) := Lib.hid (hr2.1.under hx3)
  have HR3 : Hid (BX W3 w.heap.size 24 #[.int .i64 0, .string ⟨#[]⟩, .string ⟨#[]⟩, .int .u64 0, .int .i64 0]) := Lib.hid (BX.below ((hr2.2.block _ hlt2 (by have := HLT.out; omega)).trans HN2.out) hx3)
  have HO3 := Lib.hid m3
  have HEW3 : Hid (Ew eb w W3) := Lib.hid (((ew_of_below HX1.out).trans hr2.2).trans (ew_of_below hx3))
  have HLE : Hid (w.heap.size < w2.heap.size ∧ eb < w.heap.size) := Lib.hid ⟨by omega, HLT.out⟩
  have HS3 : Hid (W3.heap.size = w2.heap.size + 1) := Lib.hid (by rw [hW3, World.size_alloc])
  have HW3 := Lib.hid hW3
  have c0 : W3.cell? ⟨w2.heap.size, 0, none⟩ = some (.int .i64 (n : Nat)) := m3.cell 0 rfl
  clear m3 hx3 hr2 hW3 h2s hlt2 HNU HN2 HX1
  go_upto_region 2 with fail
  rw [← HW3.out]
  clear HW3
  obtain ⟨g3, hg3⟩ : ∃ g, g = w2.heap.size := ⟨_, rfl⟩
  rw [← hg3] at HO3 HLE HS3 c0 ⊢
  clear hg3
  go_wp2_with fail
  refine (HU.out _).mono ?_
  rintro e w4 ⟨rfl, hb4⟩
  have m5 := BX.new w4 53 #[.bool bi, .bool bk, .bool bv, .bool bt, .bool bt]
  have hx5 := boxed_below w4 (.cells #[.bool bi, .bool bk, .bool bv, .bool bt, .bool bt] 53)
  obtain ⟨W5, hW5⟩ : ∃ W, W = w4.alloc (.cells #[.bool bi, .bool bk, .bool bv, .bool bt, .bool bt] 53) := ⟨_, rfl⟩
  rw [← hW5] at m5 hx5
  have hb5 := hb4.trans (hx5.mono hb4.size)
  have HA5 : Hid (PAt w W5 eb w.heap.size g3 w4.heap.size s1 (n : Nat) ⟨#[]⟩ ⟨#[]⟩ 0 0 #[.bool bi, .bool bk, .bool bv, .bool bt, .bool bt]) := Lib.hid (by
    have h1 := HLE.out
    have h2 := HS3.out
    have h3 := hb4.size
    exact ⟨HE3.out.under hb5, HR3.out.below hb5, HO3.out.below hb5, m5, HEW3.out.trans (ew_of_below hb5), ⟨by omega, by omega⟩, ⟨by omega, by omega, by omega, by omega, by omega⟩⟩)
  have HW5 := Lib.hid hW5
  clear m5 hx5 hb4 hb5 hW5 c0 HE3 HR3 HO3 HEW3 HU HS3
  go_upto_region 3 with fail
  rw [← HW5.out]
  clear HW5
  obtain ⟨g4, hg4⟩ : ∃ g, g = w4.heap.size := ⟨_, rfl⟩
  rw [← hg4] at HA5 ⊢
  clear hg4
  cases bk with
  | false =>
    cases bt with
    | false =>
      cases bv with
      | false =>
        have c0 : W5.cell? ⟨g3, 0, none⟩ = some (.int .i64 (n : Nat)) := HA5.out.op.cell 0 rfl
        have c1 : W5.cell? ⟨g3, 1, none⟩ = some (.string ⟨#[]⟩) := HA5.out.op.cell 1 rfl
        have c2 : W5.cell? ⟨g3, 2, none⟩ = some (.string ⟨#[]⟩) := HA5.out.op.cell 2 rfl
        have c3 : W5.cell? ⟨g3, 3, none⟩ = some (.int .u64 0) := HA5.out.op.cell 3 rfl
        have c4 : W5.cell? ⟨g3, 4, none⟩ = some (.int .i64 0) := HA5.out.op.cell 4 rfl
        have x0 := HA5.out.op.frozen 0
        have x1 := HA5.out.op.frozen 1
        have x2 := HA5.out.op.frozen 2
        have x3 := HA5.out.op.frozen 3
        have x4 := HA5.out.op.frozen 4
        have d1 : W5.cell? ⟨g4, 1, none⟩ = some (.bool false) := HA5.out.pa.cell 1 rfl
        have d2 : W5.cell? ⟨g4, 2, none⟩ = some (.bool false) := HA5.out.pa.cell 2 rfl
        have d3 : W5.cell? ⟨g4, 3, none⟩ = some (.bool false) := HA5.out.pa.cell 3 rfl
        have d4 : W5.cell? ⟨g4, 4, none⟩ = some (.bool false) := HA5.out.pa.cell 4 rfl
        have r0 : W5.cell? ⟨w.heap.size, 0, none⟩ = some (.int .i64 0) := HA5.out.res.cell 0 rfl
        have y0 := HA5.out.res.frozen 0
        have r1 : W5.cell? ⟨w.heap.size, 1, none⟩ = some (.string ⟨#[]⟩) := HA5.out.res.cell 1 rfl
        have y1 := HA5.out.res.frozen 1
        have r2 : W5.cell? ⟨w.heap.size, 2, none⟩ = some (.string ⟨#[]⟩) := HA5.out.res.cell 2 rfl
        have y2 := HA5.out.res.frozen 2
        have r3 : W5.cell? ⟨w.heap.size, 3, none⟩ = some (.int .u64 0) := HA5.out.res.cell 3 rfl
        have y3 := HA5.out.res.frozen 3
        have r4 : W5.cell? ⟨w.heap.size, 4, none⟩ = some (.int .i64 0) := HA5.out.res.cell 4 rfl
        have y4 := HA5.out.res.frozen 4
        have hne := HA5.out.ne.2.2.2.1
        have HQQ : Hid (R = (⟨n, ⟨#[]⟩, ⟨#[]⟩, 0, 0⟩, s1)) := Lib.hid (by rw [HR.out]; simp only [parseU, if_false, Bool.false_eq_true]; rfl)
        go_wp2
        refine bodyPost_ret (v := .agg #[.int .i64 (n : Nat), .string ⟨#[]⟩, .string ⟨#[]⟩, .int .u64 0, .int .i64 0]) (by simp [results, Tryd.results39, go_sem, *]) rfl ?_
        rw [HQQ.out]
        refine ⟨rfl, ?_⟩
        have hE := HA5.out.eye
        have hR2 := HA5.out.res
        have hW := HA5.out.ew
        exact readS_stored hE hR2 (fun e => HA5.out.ne.1 e) hW _ _ _ _ _
      | true =>
        have c0 : W5.cell? ⟨g3, 0, none⟩ = some (.int .i64 (n : Nat)) := HA5.out.op.cell 0 rfl
        have c1 : W5.cell? ⟨g3, 1, none⟩ = some (.string ⟨#[]⟩) := HA5.out.op.cell 1 rfl
        have c2 : W5.cell? ⟨g3, 2, none⟩ = some (.string ⟨#[]⟩) := HA5.out.op.cell 2 rfl
        have c3 : W5.cell? ⟨g3, 3, none⟩ = some (.int .u64 0) := HA5.out.op.cell 3 rfl
        have c4 : W5.cell? ⟨g3, 4, none⟩ = some (.int .i64 0) := HA5.out.op.cell 4 rfl
        have x0 := HA5.out.op.frozen 0
        have x1 := HA5.out.op.frozen 1
        have x2 := HA5.out.op.frozen 2
        have x3 := HA5.out.op.frozen 3
        have x4 := HA5.out.op.frozen 4
        have d1 : W5.cell? ⟨g4, 1, none⟩ = some (.bool false) := HA5.out.pa.cell 1 rfl
        have d2 : W5.cell? ⟨g4, 2, none⟩ = some (.bool true) := HA5.out.pa.cell 2 rfl
        have d3 : W5.cell? ⟨g4, 3, none⟩ = some (.bool false) := HA5.out.pa.cell 3 rfl
        have d4 : W5.cell? ⟨g4, 4, none⟩ = some (.bool false) := HA5.out.pa.cell 4 rfl
        have HC6 := Lib.hid (eyeNumF eb 18446744073709551615 s1 W5 HA5.out.eye)
        have hle6 := eN_le 18446744073709551615 s1
        rcases hQ6 : eN 18446744073709551615 s1 with ⟨X6, s6⟩
        rw [hQ6] at HC6 hle6
        simp only at hle6
        have HQ6 := Lib.hid hQ6
        clear hQ6
        go_wp2_with fail
        refine HC6.out.mono ?_
        rintro e w6 ⟨rfl, hr6⟩
        have HB6 := Lib.hid (HA5.out.step hr6)
        clear hr6 HC6
        clear c0 c1 c2 c3 c4 x0 x1 x2 x3 x4 d1 d2 d3 d4
        have c0 : w6.cell? ⟨g3, 0, none⟩ = some (.int .i64 (n : Nat)) := HB6.out.op.cell 0 rfl
        have c1 : w6.cell? ⟨g3, 1, none⟩ = some (.string ⟨#[]⟩) := HB6.out.op.cell 1 rfl
        have c2 : w6.cell? ⟨g3, 2, none⟩ = some (.string ⟨#[]⟩) := HB6.out.op.cell 2 rfl
        have c3 : w6.cell? ⟨g3, 3, none⟩ = some (.int .u64 0) := HB6.out.op.cell 3 rfl
        have c4 : w6.cell? ⟨g3, 4, none⟩ = some (.int .i64 0) := HB6.out.op.cell 4 rfl
        have x0 := HB6.out.op.frozen 0
        have x1 := HB6.out.op.frozen 1
        have x2 := HB6.out.op.frozen 2
        have x3 := HB6.out.op.frozen 3
        have x4 := HB6.out.op.frozen 4
        have d1 : w6.cell? ⟨g4, 1, none⟩ = some (.bool false) := HB6.out.pa.cell 1 rfl
        have d2 : w6.cell? ⟨g4, 2, none⟩ = some (.bool true) := HB6.out.pa.cell 2 rfl
        have d3 : w6.cell? ⟨g4, 3, none⟩ = some (.bool false) := HB6.out.pa.cell 3 rfl
        have d4 : w6.cell? ⟨g4, 4, none⟩ = some (.bool false) := HB6.out.pa.cell 4 rfl
        have h6x := HB6.out.set3 (X6 : Nat)
        obtain ⟨W7, hW6⟩ : ∃ W, W = w6.setCell ⟨g3, 3, none⟩ (.int .u64 (X6 : Nat)) := ⟨_, rfl⟩
        rw [← hW6] at h6x
        have HA7 := Lib.hid h6x
        have HW6 := Lib.hid hW6
        clear h6x hW6
        go_upto_region 9 with fail
        rw [← HW6.out]
        clear HW6
        clear c0 c1 c2 c3 c4 x0 x1 x2 x3 x4 d1 d2 d3 d4
        have c0 : W7.cell? ⟨g3, 0, none⟩ = some (.int .i64 (n : Nat)) := HA7.out.op.cell 0 rfl
        have c1 : W7.cell? ⟨g3, 1, none⟩ = some (.string ⟨#[]⟩) := HA7.out.op.cell 1 rfl
        have c2 : W7.cell? ⟨g3, 2, none⟩ = some (.string ⟨#[]⟩) := HA7.out.op.cell 2 rfl
        have c3 : W7.cell? ⟨g3, 3, none⟩ = some (.int .u64 (X6 : Nat)) := HA7.out.op.cell 3 rfl
        have c4 : W7.cell? ⟨g3, 4, none⟩ = some (.int .i64 0) := HA7.out.op.cell 4 rfl
        have x0 := HA7.out.op.frozen 0
        have x1 := HA7.out.op.frozen 1
        have x2 := HA7.out.op.frozen 2
        have x3 := HA7.out.op.frozen 3
        have x4 := HA7.out.op.frozen 4
        have d1 : W7.cell? ⟨g4, 1, none⟩ = some (.bool false) := HA7.out.pa.cell 1 rfl
        have d2 : W7.cell? ⟨g4, 2, none⟩ = some (.bool true) := HA7.out.pa.cell 2 rfl
        have d3 : W7.cell? ⟨g4, 3, none⟩ = some (.bool false) := HA7.out.pa.cell 3 rfl
        have d4 : W7.cell? ⟨g4, 4, none⟩ = some (.bool false) := HA7.out.pa.cell 4 rfl
        have r0 : W7.cell? ⟨w.heap.size, 0, none⟩ = some (.int .i64 0) := HA7.out.res.cell 0 rfl
        have y0 := HA7.out.res.frozen 0
        have r1 : W7.cell? ⟨w.heap.size, 1, none⟩ = some (.string ⟨#[]⟩) := HA7.out.res.cell 1 rfl
        have y1 := HA7.out.res.frozen 1
        have r2 : W7.cell? ⟨w.heap.size, 2, none⟩ = some (.string ⟨#[]⟩) := HA7.out.res.cell 2 rfl
        have y2 := HA7.out.res.frozen 2
        have r3 : W7.cell? ⟨w.heap.size, 3, none⟩ = some (.int .u64 0) := HA7.out.res.cell 3 rfl
        have y3 := HA7.out.res.frozen 3
        have r4 : W7.cell? ⟨w.heap.size, 4, none⟩ = some (.int .i64 0) := HA7.out.res.cell 4 rfl
        have y4 := HA7.out.res.frozen 4
        have hne := HA7.out.ne.2.2.2.1
        have HQQ : Hid (R = (⟨n, ⟨#[]⟩, ⟨#[]⟩, (X6 : Nat), 0⟩, s6)) := Lib.hid (by rw [HR.out]; simp only [parseU, if_true, if_false, Bool.false_eq_true, HQ6.out]; rfl)
        go_wp2
        refine bodyPost_ret (v := .agg #[.int .i64 (n : Nat), .string ⟨#[]⟩, .string ⟨#[]⟩, .int .u64 (X6 : Nat), .int .i64 0]) (by simp [results, Tryd.results39, go_sem, *]) rfl ?_
        rw [HQQ.out]
        refine ⟨rfl, ?_⟩
        have hE := HA7.out.eye
        have hR2 := HA7.out.res
        have hW := HA7.out.ew
        exact readS_stored hE hR2 (fun e => HA7.out.ne.1 e) hW _ _ _ _ _
    | true =>
      cases bv with
      | false =>
        have c0 : W5.cell? ⟨g3, 0, none⟩ = some (.int .i64 (n : Nat)) := HA5.out.op.cell 0 rfl
        have c1 : W5.cell? ⟨g3, 1, none⟩ = some (.string ⟨#[]⟩) := HA5.out.op.cell 1 rfl
        have c2 : W5.cell? ⟨g3, 2, none⟩ = some (.string ⟨#[]⟩) := HA5.out.op.cell 2 rfl
        have c3 : W5.cell? ⟨g3, 3, none⟩ = some (.int .u64 0) := HA5.out.op.cell 3 rfl
        have c4 : W5.cell? ⟨g3, 4, none⟩ = some (.int .i64 0) := HA5.out.op.cell 4 rfl
        have x0 := HA5.out.op.frozen 0
        have x1 := HA5.out.op.frozen 1
        have x2 := HA5.out.op.frozen 2
        have x3 := HA5.out.op.frozen 3
        have x4 := HA5.out.op.frozen 4
        have d1 : W5.cell? ⟨g4, 1, none⟩ = some (.bool false) := HA5.out.pa.cell 1 rfl
        have d2 : W5.cell? ⟨g4, 2, none⟩ = some (.bool false) := HA5.out.pa.cell 2 rfl
        have d3 : W5.cell? ⟨g4, 3, none⟩ = some (.bool true) := HA5.out.pa.cell 3 rfl
        have d4 : W5.cell? ⟨g4, 4, none⟩ = some (.bool true) := HA5.out.pa.cell 4 rfl
        have HC6 := Lib.hid (eyeTextF eb 64 s1 W5 HA5.out.eye (by omega))
        rcases hQ6 : eT 64 s1 with ⟨X6, s6⟩
        rw [hQ6] at HC6
        have HQ6 := Lib.hid hQ6
        clear hQ6
        go_wp2_with fail
        refine HC6.out.mono ?_
        rintro e w6 ⟨rfl, hr6⟩
        have HB6 := Lib.hid (HA5.out.step hr6)
        clear hr6 HC6
        clear c0 c1 c2 c3 c4 x0 x1 x2 x3 x4 d1 d2 d3 d4
        have c0 : w6.cell? ⟨g3, 0, none⟩ = some (.int .i64 (n : Nat)) := HB6.out.op.cell 0 rfl
        have c1 : w6.cell? ⟨g3, 1, none⟩ = some (.string ⟨#[]⟩) := HB6.out.op.cell 1 rfl
        have c2 : w6.cell? ⟨g3, 2, none⟩ = some (.string ⟨#[]⟩) := HB6.out.op.cell 2 rfl
        have c3 : w6.cell? ⟨g3, 3, none⟩ = some (.int .u64 0) := HB6.out.op.cell 3 rfl
        have c4 : w6.cell? ⟨g3, 4, none⟩ = some (.int .i64 0) := HB6.out.op.cell 4 rfl
        have x0 := HB6.out.op.frozen 0
        have x1 := HB6.out.op.frozen 1
        have x2 := HB6.out.op.frozen 2
        have x3 := HB6.out.op.frozen 3
        have x4 := HB6.out.op.frozen 4
        have d1 : w6.cell? ⟨g4, 1, none⟩ = some (.bool false) := HB6.out.pa.cell 1 rfl
        have d2 : w6.cell? ⟨g4, 2, none⟩ = some (.bool false) := HB6.out.pa.cell 2 rfl
        have d3 : w6.cell? ⟨g4, 3, none⟩ = some (.bool true) := HB6.out.pa.cell 3 rfl
        have d4 : w6.cell? ⟨g4, 4, none⟩ = some (.bool true) := HB6.out.pa.cell 4 rfl
        have h6x := HB6.out.set2 X6
        obtain ⟨W7, hW6⟩ : ∃ W, W = w6.setCell ⟨g3, 2, none⟩ (.string X6) := ⟨_, rfl⟩
        rw [← hW6] at h6x
        have HA7 := Lib.hid h6x
        have HW6 := Lib.hid hW6
        clear h6x hW6
        go_upto_region 7 with fail
        rw [← HW6.out]
        clear HW6
        clear c0 c1 c2 c3 c4 x0 x1 x2 x3 x4 d1 d2 d3 d4
        have c0 : W7.cell? ⟨g3, 0, none⟩ = some (.int .i64 (n : Nat)) := HA7.out.op.cell 0 rfl
        have c1 : W7.cell? ⟨g3, 1, none⟩ = some (.string ⟨#[]⟩) := HA7.out.op.cell 1 rfl
        have c2 : W7.cell? ⟨g3, 2, none⟩ = some (.string X6) := HA7.out.op.cell 2 rfl
        have c3 : W7.cell? ⟨g3, 3, none⟩ = some (.int .u64 0) := HA7.out.op.cell 3 rfl
        have c4 : W7.cell? ⟨g3, 4, none⟩ = some (.int .i64 0) := HA7.out.op.cell 4 rfl
        have x0 := HA7.out.op.frozen 0
        have x1 := HA7.out.op.frozen 1
        have x2 := HA7.out.op.frozen 2
        have x3 := HA7.out.op.frozen 3
        have x4 := HA7.out.op.frozen 4
        have d1 : W7.cell? ⟨g4, 1, none⟩ = some (.bool false) := HA7.out.pa.cell 1 rfl
        have d2 : W7.cell? ⟨g4, 2, none⟩ = some (.bool false) := HA7.out.pa.cell 2 rfl
        have d3 : W7.cell? ⟨g4, 3, none⟩ = some (.bool true) := HA7.out.pa.cell 3 rfl
        have d4 : W7.cell? ⟨g4, 4, none⟩ = some (.bool true) := HA7.out.pa.cell 4 rfl
        have HC8 := Lib.hid (eyeNumF eb 4096 s6 W7 HA7.out.eye)
        have hle8 := eN_le 4096 s6
        rcases hQ8 : eN 4096 s6 with ⟨X8, s8⟩
        rw [hQ8] at HC8 hle8
        simp only at hle8
        have HQ8 := Lib.hid hQ8
        clear hQ8
        go_wp2_with fail
        refine HC8.out.mono ?_
        rintro e w8 ⟨rfl, hr8⟩
        have HB8 := Lib.hid (HA7.out.step hr8)
        clear hr8 HC8
        clear c0 c1 c2 c3 c4 x0 x1 x2 x3 x4 d1 d2 d3 d4
        have c0 : w8.cell? ⟨g3, 0, none⟩ = some (.int .i64 (n : Nat)) := HB8.out.op.cell 0 rfl
        have c1 : w8.cell? ⟨g3, 1, none⟩ = some (.string ⟨#[]⟩) := HB8.out.op.cell 1 rfl
        have c2 : w8.cell? ⟨g3, 2, none⟩ = some (.string X6) := HB8.out.op.cell 2 rfl
        have c3 : w8.cell? ⟨g3, 3, none⟩ = some (.int .u64 0) := HB8.out.op.cell 3 rfl
        have c4 : w8.cell? ⟨g3, 4, none⟩ = some (.int .i64 0) := HB8.out.op.cell 4 rfl
        have x0 := HB8.out.op.frozen 0
        have x1 := HB8.out.op.frozen 1
        have x2 := HB8.out.op.frozen 2
        have x3 := HB8.out.op.frozen 3
        have x4 := HB8.out.op.frozen 4
        have d1 : w8.cell? ⟨g4, 1, none⟩ = some (.bool false) := HB8.out.pa.cell 1 rfl
        have d2 : w8.cell? ⟨g4, 2, none⟩ = some (.bool false) := HB8.out.pa.cell 2 rfl
        have d3 : w8.cell? ⟨g4, 3, none⟩ = some (.bool true) := HB8.out.pa.cell 3 rfl
        have d4 : w8.cell? ⟨g4, 4, none⟩ = some (.bool true) := HB8.out.pa.cell 4 rfl
        have h8x := HB8.out.set4 (X8 : Nat)
        obtain ⟨W9, hW8⟩ : ∃ W, W = w8.setCell ⟨g3, 4, none⟩ (.int .i64 (X8 : Nat)) := ⟨_, rfl⟩
        rw [← hW8] at h8x
        have HA9 := Lib.hid h8x
        have HW8 := Lib.hid hW8
        clear h8x hW8
        go_upto_region 11 with fail
        rw [← HW8.out]
        clear HW8
        clear c0 c1 c2 c3 c4 x0 x1 x2 x3 x4 d1 d2 d3 d4
        have c0 : W9.cell? ⟨g3, 0, none⟩ = some (.int .i64 (n : Nat)) := HA9.out.op.cell 0 rfl
        have c1 : W9.cell? ⟨g3, 1, none⟩ = some (.string ⟨#[]⟩) := HA9.out.op.cell 1 rfl
        have c2 : W9.cell? ⟨g3, 2, none⟩ = some (.string X6) := HA9.out.op.cell 2 rfl
        have c3 : W9.cell? ⟨g3, 3, none⟩ = some (.int .u64 0) := HA9.out.op.cell 3 rfl
        have c4 : W9.cell? ⟨g3, 4, none⟩ = some (.int .i64 (X8 : Nat)) := HA9.out.op.cell 4 rfl
        have x0 := HA9.out.op.frozen 0
        have x1 := HA9.out.op.frozen 1
        have x2 := HA9.out.op.frozen 2
        have x3 := HA9.out.op.frozen 3
        have x4 := HA9.out.op.frozen 4
        have d1 : W9.cell? ⟨g4, 1, none⟩ = some (.bool false) := HA9.out.pa.cell 1 rfl
        have d2 : W9.cell? ⟨g4, 2, none⟩ = some (.bool false) := HA9.out.pa.cell 2 rfl
        have d3 : W9.cell? ⟨g4, 3, none⟩ = some (.bool true) := HA9.out.pa.cell 3 rfl
        have d4 : W9.cell? ⟨g4, 4, none⟩ = some (.bool true) := HA9.out.pa.cell 4 rfl
        have r0 : W9.cell? ⟨w.heap.size, 0, none⟩ = some (.int .i64 0) := HA9.out.res.cell 0 rfl
        have y0 := HA9.out.res.frozen 0
        have r1 : W9.cell? ⟨w.heap.size, 1, none⟩ = some (.string ⟨#[]⟩) := HA9.out.res.cell 1 rfl
        have y1 := HA9.out.res.frozen 1
        have r2 : W9.cell? ⟨w.heap.size, 2, none⟩ = some (.string ⟨#[]⟩) := HA9.out.res.cell 2 rfl
        have y2 := HA9.out.res.frozen 2
        have r3 : W9.cell? ⟨w.heap.size, 3, none⟩ = some (.int .u64 0) := HA9.out.res.cell 3 rfl
        have y3 := HA9.out.res.frozen 3
        have r4 : W9.cell? ⟨w.heap.size, 4, none⟩ = some (.int .i64 0) := HA9.out.res.cell 4 rfl
        have y4 := HA9.out.res.frozen 4
        have hne := HA9.out.ne.2.2.2.1
        have HQQ : Hid (R = (⟨n, ⟨#[]⟩, X6, 0, (X8 : Nat)⟩, s8)) := Lib.hid (by rw [HR.out]; simp only [parseU, if_true, if_false, Bool.false_eq_true, HQ6.out, HQ8.out])
        go_wp2
        refine bodyPost_ret (v := .agg #[.int .i64 (n : Nat), .string ⟨#[]⟩, .string X6, .int .u64 0, .int .i64 (X8 : Nat)]) (by simp [results, Tryd.results39, go_sem, *]) rfl ?_
        rw [HQQ.out]
        refine ⟨rfl, ?_⟩
        have hE := HA9.out.eye
        have hR2 := HA9.out.res
        have hW := HA9.out.ew
        exact readS_stored hE hR2 (fun e => HA9.out.ne.1 e) hW _ _ _ _ _
      | true =>
        have c0 : W5.cell? ⟨g3, 0, none⟩ = some (.int .i64 (n : Nat)) := HA5.out.op.cell 0 rfl
        have c1 : W5.cell? ⟨g3, 1, none⟩ = some (.string ⟨#[]⟩) := HA5.out.op.cell 1 rfl
        have c2 : W5.cell? ⟨g3, 2, none⟩ = some (.string ⟨#[]⟩) := HA5.out.op.cell 2 rfl
        have c3 : W5.cell? ⟨g3, 3, none⟩ = some (.int .u64 0) := HA5.out.op.cell 3 rfl
        have c4 : W5.cell? ⟨g3, 4, none⟩ = some (.int .i64 0) := HA5.out.op.cell 4 rfl
        have x0 := HA5.out.op.frozen 0
        have x1 := HA5.out.op.frozen 1
        have x2 := HA5.out.op.frozen 2
        have x3 := HA5.out.op.frozen 3
        have x4 := HA5.out.op.frozen 4
        have d1 : W5.cell? ⟨g4, 1, none⟩ = some (.bool false) := HA5.out.pa.cell 1 rfl
        have d2 : W5.cell? ⟨g4, 2, none⟩ = some (.bool true) := HA5.out.pa.cell 2 rfl
        have d3 : W5.cell? ⟨g4, 3, none⟩ = some (.bool true) := HA5.out.pa.cell 3 rfl
        have d4 : W5.cell? ⟨g4, 4, none⟩ = some (.bool true) := HA5.out.pa.cell 4 rfl
        have HC6 := Lib.hid (eyeTextF eb 64 s1 W5 HA5.out.eye (by omega))
        rcases hQ6 : eT 64 s1 with ⟨X6, s6⟩
        rw [hQ6] at HC6
        have HQ6 := Lib.hid hQ6
        clear hQ6
        go_wp2_with fail
        refine HC6.out.mono ?_
        rintro e w6 ⟨rfl, hr6⟩
        have HB6 := Lib.hid (HA5.out.step hr6)
        clear hr6 HC6
        clear c0 c1 c2 c3 c4 x0 x1 x2 x3 x4 d1 d2 d3 d4
        have c0 : w6.cell? ⟨g3, 0, none⟩ = some (.int .i64 (n : Nat)) := HB6.out.op.cell 0 rfl
        have c1 : w6.cell? ⟨g3, 1, none⟩ = some (.string ⟨#[]⟩) := HB6.out.op.cell 1 rfl
        have c2 : w6.cell? ⟨g3, 2, none⟩ = some (.string ⟨#[]⟩) := HB6.out.op.cell 2 rfl
        have c3 : w6.cell? ⟨g3, 3, none⟩ = some (.int .u64 0) := HB6.out.op.cell 3 rfl
        have c4 : w6.cell? ⟨g3, 4, none⟩ = some (.int .i64 0) := HB6.out.op.cell 4 rfl
        have x0 := HB6.out.op.frozen 0
        have x1 := HB6.out.op.frozen 1
        have x2 := HB6.out.op.frozen 2
        have x3 := HB6.out.op.frozen 3
        have x4 := HB6.out.op.frozen 4
        have d1 : w6.cell? ⟨g4, 1, none⟩ = some (.bool false) := HB6.out.pa.cell 1 rfl
        have d2 : w6.cell? ⟨g4, 2, none⟩ = some (.bool true) := HB6.out.pa.cell 2 rfl
        have d3 : w6.cell? ⟨g4, 3, none⟩ = some (.bool true) := HB6.out.pa.cell 3 rfl
        have d4 : w6.cell? ⟨g4, 4, none⟩ = some (.bool true) := HB6.out.pa.cell 4 rfl
        have h6x := HB6.out.set2 X6
        obtain ⟨W7, hW6⟩ : ∃ W, W = w6.setCell ⟨g3, 2, none⟩ (.string X6) := ⟨_, rfl⟩
        rw [← hW6] at h6x
        have HA7 := Lib.hid h6x
        have HW6 := Lib.hid hW6
        clear h6x hW6
        go_upto_region 7 with fail
        rw [← HW6.out]
        clear HW6
        clear c0 c1 c2 c3 c4 x0 x1 x2 x3 x4 d1 d2 d3 d4
        have c0 : W7.cell? ⟨g3, 0, none⟩ = some (.int .i64 (n : Nat)) := HA7.out.op.cell 0 rfl
        have c1 : W7.cell? ⟨g3, 1, none⟩ = some (.string ⟨#[]⟩) := HA7.out.op.cell 1 rfl
        have c2 : W7.cell? ⟨g3, 2, none⟩ = some (.string X6) := HA7.out.op.cell 2 rfl
        have c3 : W7.cell? ⟨g3, 3, none⟩ = some (.int .u64 0) := HA7.out.op.cell 3 rfl
        have c4 : W7.cell? ⟨g3, 4, none⟩ = some (.int .i64 0) := HA7.out.op.cell 4 rfl
        have x0 := HA7.out.op.frozen 0
        have x1 := HA7.out.op.frozen 1
        have x2 := HA7.out.op.frozen 2
        have x3 := HA7.out.op.frozen 3
        have x4 := HA7.out.op.frozen 4
        have d1 : W7.cell? ⟨g4, 1, none⟩ = some (.bool false) := HA7.out.pa.cell 1 rfl
        have d2 : W7.cell? ⟨g4, 2, none⟩ = some (.bool true) := HA7.out.pa.cell 2 rfl
        have d3 : W7.cell? ⟨g4, 3, none⟩ = some (.bool true) := HA7.out.pa.cell 3 rfl
        have d4 : W7.cell? ⟨g4, 4, none⟩ = some (.bool true) := HA7.out.pa.cell 4 rfl
        have HC8 := Lib.hid (eyeNumF eb 18446744073709551615 s6 W7 HA7.out.eye)
        have hle8 := eN_le 18446744073709551615 s6
        rcases hQ8 : eN 18446744073709551615 s6 with ⟨X8, s8⟩
        rw [hQ8] at HC8 hle8
        simp only at hle8
        have HQ8 := Lib.hid hQ8
        clear hQ8
        go_wp2_with fail
        refine HC8.out.mono ?_
        rintro e w8 ⟨rfl, hr8⟩
        have HB8 := Lib.hid (HA7.out.step hr8)
        clear hr8 HC8
        clear c0 c1 c2 c3 c4 x0 x1 x2 x3 x4 d1 d2 d3 d4
        have c0 : w8.cell? ⟨g3, 0, none⟩ = some (.int .i64 (n : Nat)) := HB8.out.op.cell 0 rfl
        have c1 : w8.cell? ⟨g3, 1, none⟩ = some (.string ⟨#[]⟩) := HB8.out.op.cell 1 rfl
        have c2 : w8.cell? ⟨g3, 2, none⟩ = some (.string X6) := HB8.out.op.cell 2 rfl
        have c3 : w8.cell? ⟨g3, 3, none⟩ = some (.int .u64 0) := HB8.out.op.cell 3 rfl
        have c4 : w8.cell? ⟨g3, 4, none⟩ = some (.int .i64 0) := HB8.out.op.cell 4 rfl
        have x0 := HB8.out.op.frozen 0
        have x1 := HB8.out.op.frozen 1
        have x2 := HB8.out.op.frozen 2
        have x3 := HB8.out.op.frozen 3
        have x4 := HB8.out.op.frozen 4
        have d1 : w8.cell? ⟨g4, 1, none⟩ = some (.bool false) := HB8.out.pa.cell 1 rfl
        have d2 : w8.cell? ⟨g4, 2, none⟩ = some (.bool true) := HB8.out.pa.cell 2 rfl
        have d3 : w8.cell? ⟨g4, 3, none⟩ = some (.bool true) := HB8.out.pa.cell 3 rfl
        have d4 : w8.cell? ⟨g4, 4, none⟩ = some (.bool true) := HB8.out.pa.cell 4 rfl
        have h8x := HB8.out.set3 (X8 : Nat)
        obtain ⟨W9, hW8⟩ : ∃ W, W = w8.setCell ⟨g3, 3, none⟩ (.int .u64 (X8 : Nat)) := ⟨_, rfl⟩
        rw [← hW8] at h8x
        have HA9 := Lib.hid h8x
        have HW8 := Lib.hid hW8
        clear h8x hW8
        go_upto_region 9 with fail
        rw [← HW8.out]
        clear HW8
        clear c0 c1 c2 c3 c4 x0 x1 x2 x3 x4 d1 d2 d3 d4
        have c0 : W9.cell? ⟨g3, 0, none⟩ = some (.int .i64 (n : Nat)) := HA9.out.op.cell 0 rfl
        have c1 : W9.cell? ⟨g3, 1, none⟩ = some (.string ⟨#[]⟩) := HA9.out.op.cell 1 rfl
        have c2 : W9.cell? ⟨g3, 2, none⟩ = some (.string X6) := HA9.out.op.cell 2 rfl
        have c3 : W9.cell? ⟨g3, 3, none⟩ = some (.int .u64 (X8 : Nat)) := HA9.out.op.cell 3 rfl
        have c4 : W9.cell? ⟨g3, 4, none⟩ = some (.int .i64 0) := HA9.out.op.cell 4 rfl
        have x0 := HA9.out.op.frozen 0
        have x1 := HA9.out.op.frozen 1
        have x2 := HA9.out.op.frozen 2
        have x3 := HA9.out.op.frozen 3
        have x4 := HA9.out.op.frozen 4
        have d1 : W9.cell? ⟨g4, 1, none⟩ = some (.bool false) := HA9.out.pa.cell 1 rfl
        have d2 : W9.cell? ⟨g4, 2, none⟩ = some (.bool true) := HA9.out.pa.cell 2 rfl
        have d3 : W9.cell? ⟨g4, 3, none⟩ = some (.bool true) := HA9.out.pa.cell 3 rfl
        have d4 : W9.cell? ⟨g4, 4, none⟩ = some (.bool true) := HA9.out.pa.cell 4 rfl
        have HC10 := Lib.hid (eyeNumF eb 4096 s8 W9 HA9.out.eye)
        have hle10 := eN_le 4096 s8
        rcases hQ10 : eN 4096 s8 with ⟨X10, s10⟩
        rw [hQ10] at HC10 hle10
        simp only at hle10
        have HQ10 := Lib.hid hQ10
        clear hQ10
        go_wp2_with fail
        refine HC10.out.mono ?_
        rintro e w10 ⟨rfl, hr10⟩
        have HB10 := Lib.hid (HA9.out.step hr10)
        clear hr10 HC10
        clear c0 c1 c2 c3 c4 x0 x1 x2 x3 x4 d1 d2 d3 d4
        have c0 : w10.cell? ⟨g3, 0, none⟩ = some (.int .i64 (n : Nat)) := HB10.out.op.cell 0 rfl
        have c1 : w10.cell? ⟨g3, 1, none⟩ = some (.string ⟨#[]⟩) := HB10.out.op.cell 1 rfl
        have c2 : w10.cell? ⟨g3, 2, none⟩ = some (.string X6) := HB10.out.op.cell 2 rfl
        have c3 : w10.cell? ⟨g3, 3, none⟩ = some (.int .u64 (X8 : Nat)) := HB10.out.op.cell 3 rfl
        have c4 : w10.cell? ⟨g3, 4, none⟩ = some (.int .i64 0) := HB10.out.op.cell 4 rfl
        have x0 := HB10.out.op.frozen 0
        have x1 := HB10.out.op.frozen 1
        have x2 := HB10.out.op.frozen 2
        have x3 := HB10.out.op.frozen 3
        have x4 := HB10.out.op.frozen 4
        have d1 : w10.cell? ⟨g4, 1, none⟩ = some (.bool false) := HB10.out.pa.cell 1 rfl
        have d2 : w10.cell? ⟨g4, 2, none⟩ = some (.bool true) := HB10.out.pa.cell 2 rfl
        have d3 : w10.cell? ⟨g4, 3, none⟩ = some (.bool true) := HB10.out.pa.cell 3 rfl
        have d4 : w10.cell? ⟨g4, 4, none⟩ = some (.bool true) := HB10.out.pa.cell 4 rfl
        have h10x := HB10.out.set4 (X10 : Nat)
        obtain ⟨W11, hW10⟩ : ∃ W, W = w10.setCell ⟨g3, 4, none⟩ (.int .i64 (X10 : Nat)) := ⟨_, rfl⟩
        rw [← hW10] at h10x
        have HA11 := Lib.hid h10x
        have HW10 := Lib.hid hW10
        clear h10x hW10
        go_upto_region 11 with fail
        rw [← HW10.out]
        clear HW10
        clear c0 c1 c2 c3 c4 x0 x1 x2 x3 x4 d1 d2 d3 d4
        have c0 : W11.cell? ⟨g3, 0, none⟩ = some (.int .i64 (n : Nat)) := HA11.out.op.cell 0 rfl
        have c1 : W11.cell? ⟨g3, 1, none⟩ = some (.string ⟨#[]⟩) := HA11.out.op.cell 1 rfl
        have c2 : W11.cell? ⟨g3, 2, none⟩ = some (.string X6) := HA11.out.op.cell 2 rfl
        have c3 : W11.cell? ⟨g3, 3, none⟩ = some (.int .u64 (X8 : Nat)) := HA11.out.op.cell 3 rfl
        have c4 : W11.cell? ⟨g3, 4, none⟩ = some (.int .i64 (X10 : Nat)) := HA11.out.op.cell 4 rfl
        have x0 := HA11.out.op.frozen 0
        have x1 := HA11.out.op.frozen 1
        have x2 := HA11.out.op.frozen 2
        have x3 := HA11.out.op.frozen 3
        have x4 := HA11.out.op.frozen 4
        have d1 : W11.cell? ⟨g4, 1, none⟩ = some (.bool false) := HA11.out.pa.cell 1 rfl
        have d2 : W11.cell? ⟨g4, 2, none⟩ = some (.bool true) := HA11.out.pa.cell 2 rfl
        have d3 : W11.cell? ⟨g4, 3, none⟩ = some (.bool true) := HA11.out.pa.cell 3 rfl
        have d4 : W11.cell? ⟨g4, 4, none⟩ = some (.bool true) := HA11.out.pa.cell 4 rfl
        have r0 : W11.cell? ⟨w.heap.size, 0, none⟩ = some (.int .i64 0) := HA11.out.res.cell 0 rfl
        have y0 := HA11.out.res.frozen 0
        have r1 : W11.cell? ⟨w.heap.size, 1, none⟩ = some (.string ⟨#[]⟩) := HA11.out.res.cell 1 rfl
        have y1 := HA11.out.res.frozen 1
        have r2 : W11.cell? ⟨w.heap.size, 2, none⟩ = some (.string ⟨#[]⟩) := HA11.out.res.cell 2 rfl
        have y2 := HA11.out.res.frozen 2
        have r3 : W11.cell? ⟨w.heap.size, 3, none⟩ = some (.int .u64 0) := HA11.out.res.cell 3 rfl
        have y3 := HA11.out.res.frozen 3
        have r4 : W11.cell? ⟨w.heap.size, 4, none⟩ = some (.int .i64 0) := HA11.out.res.cell 4 rfl
        have y4 := HA11.out.res.frozen 4
        have hne := HA11.out.ne.2.2.2.1
        have HQQ : Hid (R = (⟨n, ⟨#[]⟩, X6, (X8 : Nat), (X10 : Nat)⟩, s10)) := Lib.hid (by rw [HR.out]; simp only [parseU, if_true, if_false, Bool.false_eq_true, HQ6.out, HQ8.out, HQ10.out])
        go_wp2
        refine bodyPost_ret (v := .agg #[.int .i64 (n : Nat), .string ⟨#[]⟩, .string X6, .int .u64 (X8 : Nat), .int .i64 (X10 : Nat)]) (by simp [results, Tryd.results39, go_sem, *]) rfl ?_
        rw [HQQ.out]
        refine ⟨rfl, ?_⟩
        have hE := HA11.out.eye
        have hR2 := HA11.out.res
        have hW := HA11.out.ew
        exact readS_stored hE hR2 (fun e => HA11.out.ne.1 e) hW _ _ _ _ _
  | true =>
    cases bt with
    | false =>
      cases bv with
      | false =>
        have c0 : W5.cell? ⟨g3, 0, none⟩ = some (.int .i64 (n : Nat)) := HA5.out.op.cell 0 rfl
        have c1 : W5.cell? ⟨g3, 1, none⟩ = some (.string ⟨#[]⟩) := HA5.out.op.cell 1 rfl
        have c2 : W5.cell? ⟨g3, 2, none⟩ = some (.string ⟨#[]⟩) := HA5.out.op.cell 2 rfl
        have c3 : W5.cell? ⟨g3, 3, none⟩ = some (.int .u64 0) := HA5.out.op.cell 3 rfl
        have c4 : W5.cell? ⟨g3, 4, none⟩ = some (.int .i64 0) := HA5.out.op.cell 4 rfl
        have x0 := HA5.out.op.frozen 0
        have x1 := HA5.out.op.frozen 1
        have x2 := HA5.out.op.frozen 2
        have x3 := HA5.out.op.frozen 3
        have x4 := HA5.out.op.frozen 4
        have d1 : W5.cell? ⟨g4, 1, none⟩ = some (.bool true) := HA5.out.pa.cell 1 rfl
        have d2 : W5.cell? ⟨g4, 2, none⟩ = some (.bool false) := HA5.out.pa.cell 2 rfl
        have d3 : W5.cell? ⟨g4, 3, none⟩ = some (.bool false) := HA5.out.pa.cell 3 rfl
        have d4 : W5.cell? ⟨g4, 4, none⟩ = some (.bool false) := HA5.out.pa.cell 4 rfl
        have HC6 := Lib.hid (eyeTextF eb 64 s1 W5 HA5.out.eye (by omega))
        rcases hQ6 : eT 64 s1 with ⟨X6, s6⟩
        rw [hQ6] at HC6
        have HQ6 := Lib.hid hQ6
        clear hQ6
        go_wp2_with fail
        refine HC6.out.mono ?_
        rintro e w6 ⟨rfl, hr6⟩
        have HB6 := Lib.hid (HA5.out.step hr6)
        clear hr6 HC6
        clear c0 c1 c2 c3 c4 x0 x1 x2 x3 x4 d1 d2 d3 d4
        have c0 : w6.cell? ⟨g3, 0, none⟩ = some (.int .i64 (n : Nat)) := HB6.out.op.cell 0 rfl
        have c1 : w6.cell? ⟨g3, 1, none⟩ = some (.string ⟨#[]⟩) := HB6.out.op.cell 1 rfl
        have c2 : w6.cell? ⟨g3, 2, none⟩ = some (.string ⟨#[]⟩) := HB6.out.op.cell 2 rfl
        have c3 : w6.cell? ⟨g3, 3, none⟩ = some (.int .u64 0) := HB6.out.op.cell 3 rfl
        have c4 : w6.cell? ⟨g3, 4, none⟩ = some (.int .i64 0) := HB6.out.op.cell 4 rfl
        have x0 := HB6.out.op.frozen 0
        have x1 := HB6.out.op.frozen 1
        have x2 := HB6.out.op.frozen 2
        have x3 := HB6.out.op.frozen 3
        have x4 := HB6.out.op.frozen 4
        have d1 : w6.cell? ⟨g4, 1, none⟩ = some (.bool true) := HB6.out.pa.cell 1 rfl
        have d2 : w6.cell? ⟨g4, 2, none⟩ = some (.bool false) := HB6.out.pa.cell 2 rfl
        have d3 : w6.cell? ⟨g4, 3, none⟩ = some (.bool false) := HB6.out.pa.cell 3 rfl
        have d4 : w6.cell? ⟨g4, 4, none⟩ = some (.bool false) := HB6.out.pa.cell 4 rfl
        have h6x := HB6.out.set1 X6
        obtain ⟨W7, hW6⟩ : ∃ W, W = w6.setCell ⟨g3, 1, none⟩ (.string X6) := ⟨_, rfl⟩
        rw [← hW6] at h6x
        have HA7 := Lib.hid h6x
        have HW6 := Lib.hid hW6
        clear h6x hW6
        go_upto_region 5 with fail
        rw [← HW6.out]
        clear HW6
        clear c0 c1 c2 c3 c4 x0 x1 x2 x3 x4 d1 d2 d3 d4
        have c0 : W7.cell? ⟨g3, 0, none⟩ = some (.int .i64 (n : Nat)) := HA7.out.op.cell 0 rfl
        have c1 : W7.cell? ⟨g3, 1, none⟩ = some (.string X6) := HA7.out.op.cell 1 rfl
        have c2 : W7.cell? ⟨g3, 2, none⟩ = some (.string ⟨#[]⟩) := HA7.out.op.cell 2 rfl
        have c3 : W7.cell? ⟨g3, 3, none⟩ = some (.int .u64 0) := HA7.out.op.cell 3 rfl
        have c4 : W7.cell? ⟨g3, 4, none⟩ = some (.int .i64 0) := HA7.out.op.cell 4 rfl
        have x0 := HA7.out.op.frozen 0
        have x1 := HA7.out.op.frozen 1
        have x2 := HA7.out.op.frozen 2
        have x3 := HA7.out.op.frozen 3
        have x4 := HA7.out.op.frozen 4
        have d1 : W7.cell? ⟨g4, 1, none⟩ = some (.bool true) := HA7.out.pa.cell 1 rfl
        have d2 : W7.cell? ⟨g4, 2, none⟩ = some (.bool false) := HA7.out.pa.cell 2 rfl
        have d3 : W7.cell? ⟨g4, 3, none⟩ = some (.bool false) := HA7.out.pa.cell 3 rfl
        have d4 : W7.cell? ⟨g4, 4, none⟩ = some (.bool false) := HA7.out.pa.cell 4 rfl
        have r0 : W7.cell? ⟨w.heap.size, 0, none⟩ = some (.int .i64 0) := HA7.out.res.cell 0 rfl
        have y0 := HA7.out.res.frozen 0
        have r1 : W7.cell? ⟨w.heap.size, 1, none⟩ = some (.string ⟨#[]⟩) := HA7.out.res.cell 1 rfl
        have y1 := HA7.out.res.frozen 1
        have r2 : W7.cell? ⟨w.heap.size, 2, none⟩ = some (.string ⟨#[]⟩) := HA7.out.res.cell 2 rfl
        have y2 := HA7.out.res.frozen 2
        have r3 : W7.cell? ⟨w.heap.size, 3, none⟩ = some (.int .u64 0) := HA7.out.res.cell 3 rfl
        have y3 := HA7.out.res.frozen 3
        have r4 : W7.cell? ⟨w.heap.size, 4, none⟩ = some (.int .i64 0) := HA7.out.res.cell 4 rfl
        have y4 := HA7.out.res.frozen 4
        have hne := HA7.out.ne.2.2.2.1
        have HQQ : Hid (R = (⟨n, X6, ⟨#[]⟩, 0, 0⟩, s6)) := Lib.hid (by rw [HR.out]; simp only [parseU, if_true, if_false, Bool.false_eq_true, HQ6.out]; rfl)
        go_wp2
        refine bodyPost_ret (v := .agg #[.int .i64 (n : Nat), .string X6, .string ⟨#[]⟩, .int .u64 0, .int .i64 0]) (by simp [results, Tryd.results39, go_sem, *]) rfl ?_
        rw [HQQ.out]
        refine ⟨rfl, ?_⟩
        have hE := HA7.out.eye
        have hR2 := HA7.out.res
        have hW := HA7.out.ew
        exact readS_stored hE hR2 (fun e => HA7.out.ne.1 e) hW _ _ _ _ _
      | true =>
        have c0 : W5.cell? ⟨g3, 0, none⟩ = some (.int .i64 (n : Nat)) := HA5.out.op.cell 0 rfl
        have c1 : W5.cell? ⟨g3, 1, none⟩ = some (.string ⟨#[]⟩) := HA5.out.op.cell 1 rfl
        have c2 : W5.cell? ⟨g3, 2, none⟩ = some (.string ⟨#[]⟩) := HA5.out.op.cell 2 rfl
        have c3 : W5.cell? ⟨g3, 3, none⟩ = some (.int .u64 0) := HA5.out.op.cell 3 rfl
        have c4 : W5.cell? ⟨g3, 4, none⟩ = some (.int .i64 0) := HA5.out.op.cell 4 rfl
        have x0 := HA5.out.op.frozen 0
        have x1 := HA5.out.op.frozen 1
        have x2 := HA5.out.op.frozen 2
        have x3 := HA5.out.op.frozen 3
        have x4 := HA5.out.op.frozen 4
        have d1 : W5.cell? ⟨g4, 1, none⟩ = some (.bool true) := HA5.out.pa.cell 1 rfl
        have d2 : W5.cell? ⟨g4, 2, none⟩ = some (.bool true) := HA5.out.pa.cell 2 rfl
        have d3 : W5.cell? ⟨g4, 3, none⟩ = some (.bool false) := HA5.out.pa.cell 3 rfl
        have d4 : W5.cell? ⟨g4, 4, none⟩ = some (.bool false) := HA5.out.pa.cell 4 rfl
        have HC6 := Lib.hid (eyeTextF eb 64 s1 W5 HA5.out.eye (by omega))
        rcases hQ6 : eT 64 s1 with ⟨X6, s6⟩
        rw [hQ6] at HC6
        have HQ6 := Lib.hid hQ6
        clear hQ6
        go_wp2_with fail
        refine HC6.out.mono ?_
        rintro e w6 ⟨rfl, hr6⟩
        have HB6 := Lib.hid (HA5.out.step hr6)
        clear hr6 HC6
        clear c0 c1 c2 c3 c4 x0 x1 x2 x3 x4 d1 d2 d3 d4
        have c0 : w6.cell? ⟨g3, 0, none⟩ = some (.int .i64 (n : Nat)) := HB6.out.op.cell 0 rfl
        have c1 : w6.cell? ⟨g3, 1, none⟩ = some (.string ⟨#[]⟩) := HB6.out.op.cell 1 rfl
        have c2 : w6.cell? ⟨g3, 2, none⟩ = some (.string ⟨#[]⟩) := HB6.out.op.cell 2 rfl
        have c3 : w6.cell? ⟨g3, 3, none⟩ = some (.int .u64 0) := HB6.out.op.cell 3 rfl
        have c4 : w6.cell? ⟨g3, 4, none⟩ = some (.int .i64 0) := HB6.out.op.cell 4 rfl
        have x0 := HB6.out.op.frozen 0
        have x1 := HB6.out.op.frozen 1
        have x2 := HB6.out.op.frozen 2
        have x3 := HB6.out.op.frozen 3
        have x4 := HB6.out.op.frozen 4
        have d1 : w6.cell? ⟨g4, 1, none⟩ = some (.bool true) := HB6.out.pa.cell 1 rfl
        have d2 : w6.cell? ⟨g4, 2, none⟩ = some (.bool true) := HB6.out.pa.cell 2 rfl
        have d3 : w6.cell? ⟨g4, 3, none⟩ = some (.bool false) := HB6.out.pa.cell 3 rfl
        have d4 : w6.cell? ⟨g4, 4, none⟩ = some (.bool false) := HB6.out.pa.cell 4 rfl
        have h6x := HB6.out.set1 X6
        obtain ⟨W7, hW6⟩ : ∃ W, W = w6.setCell ⟨g3, 1, none⟩ (.string X6) := ⟨_, rfl⟩
        rw [← hW6] at h6x
        have HA7 := Lib.hid h6x
        have HW6 := Lib.hid hW6
        clear h6x hW6
        go_upto_region 5 with fail
        rw [← HW6.out]
        clear HW6
        clear c0 c1 c2 c3 c4 x0 x1 x2 x3 x4 d1 d2 d3 d4
        have c0 : W7.cell? ⟨g3, 0, none⟩ = some (.int .i64 (n : Nat)) := HA7.out.op.cell 0 rfl
        have c1 : W7.cell? ⟨g3, 1, none⟩ = some (.string X6) := HA7.out.op.cell 1 rfl
        have c2 : W7.cell? ⟨g3, 2, none⟩ = some (.string ⟨#[]⟩) := HA7.out.op.cell 2 rfl
        have c3 : W7.cell? ⟨g3, 3, none⟩ = some (.int .u64 0) := HA7.out.op.cell 3 rfl
        have c4 : W7.cell? ⟨g3, 4, none⟩ = some (.int .i64 0) := HA7.out.op.cell 4 rfl
        have x0 := HA7.out.op.frozen 0
        have x1 := HA7.out.op.frozen 1
        have x2 := HA7.out.op.frozen 2
        have x3 := HA7.out.op.frozen 3
        have x4 := HA7.out.op.frozen 4
        have d1 : W7.cell? ⟨g4, 1, none⟩ = some (.bool true) := HA7.out.pa.cell 1 rfl
        have d2 : W7.cell? ⟨g4, 2, none⟩ = some (.bool true) := HA7.out.pa.cell 2 rfl
        have d3 : W7.cell? ⟨g4, 3, none⟩ = some (.bool false) := HA7.out.pa.cell 3 rfl
        have d4 : W7.cell? ⟨g4, 4, none⟩ = some (.bool false) := HA7.out.pa.cell 4 rfl
        have HC8 := Lib.hid (eyeNumF eb 18446744073709551615 s6 W7 HA7.out.eye)
        have hle8 := eN_le 18446744073709551615 s6
        rcases hQ8 : eN 18446744073709551615 s6 with ⟨X8, s8⟩
        rw [hQ8] at HC8 hle8
        simp only at hle8
        have HQ8 := Lib.hid hQ8
        clear hQ8
        go_wp2_with fail
        refine HC8.out.mono ?_
        rintro e w8 ⟨rfl, hr8⟩
        have HB8 := Lib.hid (HA7.out.step hr8)
        clear hr8 HC8
        clear c0 c1 c2 c3 c4 x0 x1 x2 x3 x4 d1 d2 d3 d4
        have c0 : w8.cell? ⟨g3, 0, none⟩ = some (.int .i64 (n : Nat)) := HB8.out.op.cell 0 rfl
        have c1 : w8.cell? ⟨g3, 1, none⟩ = some (.string X6) := HB8.out.op.cell 1 rfl
        have c2 : w8.cell? ⟨g3, 2, none⟩ = some (.string ⟨#[]⟩) := HB8.out.op.cell 2 rfl
        have c3 : w8.cell? ⟨g3, 3, none⟩ = some (.int .u64 0) := HB8.out.op.cell 3 rfl
        have c4 : w8.cell? ⟨g3, 4, none⟩ = some (.int .i64 0) := HB8.out.op.cell 4 rfl
        have x0 := HB8.out.op.frozen 0
        have x1 := HB8.out.op.frozen 1
        have x2 := HB8.out.op.frozen 2
        have x3 := HB8.out.op.frozen 3
        have x4 := HB8.out.op.frozen 4
        have d1 : w8.cell? ⟨g4, 1, none⟩ = some (.bool true) := HB8.out.pa.cell 1 rfl
        have d2 : w8.cell? ⟨g4, 2, none⟩ = some (.bool true) := HB8.out.pa.cell 2 rfl
        have d3 : w8.cell? ⟨g4, 3, none⟩ = some (.bool false) := HB8.out.pa.cell 3 rfl
        have d4 : w8.cell? ⟨g4, 4, none⟩ = some (.bool false) := HB8.out.pa.cell 4 rfl
        have h8x := HB8.out.set3 (X8 : Nat)
        obtain ⟨W9, hW8⟩ : ∃ W, W = w8.setCell ⟨g3, 3, none⟩ (.int .u64 (X8 : Nat)) := ⟨_, rfl⟩
        rw [← hW8] at h8x
        have HA9 := Lib.hid h8x
        have HW8 := Lib.hid hW8
        clear h8x hW8
        go_upto_region 9 with fail
        rw [← HW8.out]
        clear HW8
        clear c0 c1 c2 c3 c4 x0 x1 x2 x3 x4 d1 d2 d3 d4
        have c0 : W9.cell? ⟨g3, 0, none⟩ = some (.int .i64 (n : Nat)) := HA9.out.op.cell 0 rfl
        have c1 : W9.cell? ⟨g3, 1, none⟩ = some (.string X6) := HA9.out.op.cell 1 rfl
        have c2 : W9.cell? ⟨g3, 2, none⟩ = some (.string ⟨#[]⟩) := HA9.out.op.cell 2 rfl
        have c3 : W9.cell? ⟨g3, 3, none⟩ = some (.int .u64 (X8 : Nat)) := HA9.out.op.cell 3 rfl
        have c4 : W9.cell? ⟨g3, 4, none⟩ = some (.int .i64 0) := HA9.out.op.cell 4 rfl
        have x0 := HA9.out.op.frozen 0
        have x1 := HA9.out.op.frozen 1
        have x2 := HA9.out.op.frozen 2
        have x3 := HA9.out.op.frozen 3
        have x4 := HA9.out.op.frozen 4
        have d1 : W9.cell? ⟨g4, 1, none⟩ = some (.bool true) := HA9.out.pa.cell 1 rfl
        have d2 : W9.cell? ⟨g4, 2, none⟩ = some (.bool true) := HA9.out.pa.cell 2 rfl
        have d3 : W9.cell? ⟨g4, 3, none⟩ = some (.bool false) := HA9.out.pa.cell 3 rfl
        have d4 : W9.cell? ⟨g4, 4, none⟩ = some (.bool false) := HA9.out.pa.cell 4 rfl
        have r0 : W9.cell? ⟨w.heap.size, 0, none⟩ = some (.int .i64 0) := HA9.out.res.cell 0 rfl
        have y0 := HA9.out.res.frozen 0
        have r1 : W9.cell? ⟨w.heap.size, 1, none⟩ = some (.string ⟨#[]⟩) := HA9.out.res.cell 1 rfl
        have y1 := HA9.out.res.frozen 1
        have r2 : W9.cell? ⟨w.heap.size, 2, none⟩ = some (.string ⟨#[]⟩) := HA9.out.res.cell 2 rfl
        have y2 := HA9.out.res.frozen 2
        have r3 : W9.cell? ⟨w.heap.size, 3, none⟩ = some (.int .u64 0) := HA9.out.res.cell 3 rfl
        have y3 := HA9.out.res.frozen 3
        have r4 : W9.cell? ⟨w.heap.size, 4, none⟩ = some (.int .i64 0) := HA9.out.res.cell 4 rfl
        have y4 := HA9.out.res.frozen 4
        have hne := HA9.out.ne.2.2.2.1
        have HQQ : Hid (R = (⟨n, X6, ⟨#[]⟩, (X8 : Nat), 0⟩, s8)) := Lib.hid (by rw [HR.out]; simp only [parseU, if_true, if_false, Bool.false_eq_true, HQ6.out, HQ8.out]; rfl)
        go_wp2
        refine bodyPost_ret (v := .agg #[.int .i64 (n : Nat), .string X6, .string ⟨#[]⟩, .int .u64 (X8 : Nat), .int .i64 0]) (by simp [results, Tryd.results39, go_sem, *]) rfl ?_
        rw [HQQ.out]
        refine ⟨rfl, ?_⟩
        have hE := HA9.out.eye
        have hR2 := HA9.out.res
        have hW := HA9.out.ew
        exact readS_stored hE hR2 (fun e => HA9.out.ne.1 e) hW _ _ _ _ _
    | true =>
      cases bv with
      | false =>
        have c0 : W5.cell? ⟨g3, 0, none⟩ = some (.int .i64 (n : Nat)) := HA5.out.op.cell 0 rfl
        have c1 : W5.cell? ⟨g3, 1, none⟩ = some (.string ⟨#[]⟩) := HA5.out.op.cell 1 rfl
        have c2 : W5.cell? ⟨g3, 2, none⟩ = some (.string ⟨#[]⟩) := HA5.out.op.cell 2 rfl
        have c3 : W5.cell? ⟨g3, 3, none⟩ = some (.int .u64 0) := HA5.out.op.cell 3 rfl
        have c4 : W5.cell? ⟨g3, 4, none⟩ = some (.int .i64 0) := HA5.out.op.cell 4 rfl
        have x0 := HA5.out.op.frozen 0
        have x1 := HA5.out.op.frozen 1
        have x2 := HA5.out.op.frozen 2
        have x3 := HA5.out.op.frozen 3
        have x4 := HA5.out.op.frozen 4
        have d1 : W5.cell? ⟨g4, 1, none⟩ = some (.bool true) := HA5.out.pa.cell 1 rfl
        have d2 : W5.cell? ⟨g4, 2, none⟩ = some (.bool false) := HA5.out.pa.cell 2 rfl
        have d3 : W5.cell? ⟨g4, 3, none⟩ = some (.bool true) := HA5.out.pa.cell 3 rfl
        have d4 : W5.cell? ⟨g4, 4, none⟩ = some (.bool true) := HA5.out.pa.cell 4 rfl
        have HC6 := Lib.hid (eyeTextF eb 64 s1 W5 HA5.out.eye (by omega))
        rcases hQ6 : eT 64 s1 with ⟨X6, s6⟩
        rw [hQ6] at HC6
        have HQ6 := Lib.hid hQ6
        clear hQ6
        go_wp2_with fail
        refine HC6.out.mono ?_
        rintro e w6 ⟨rfl, hr6⟩
        have HB6 := Lib.hid (HA5.out.step hr6)
        clear hr6 HC6
        clear c0 c1 c2 c3 c4 x0 x1 x2 x3 x4 d1 d2 d3 d4
        have c0 : w6.cell? ⟨g3, 0, none⟩ = some (.int .i64 (n : Nat)) := HB6.out.op.cell 0 rfl
        have c1 : w6.cell? ⟨g3, 1, none⟩ = some (.string ⟨#[]⟩) := HB6.out.op.cell 1 rfl
        have c2 : w6.cell? ⟨g3, 2, none⟩ = some (.string ⟨#[]⟩) := HB6.out.op.cell 2 rfl
        have c3 : w6.cell? ⟨g3, 3, none⟩ = some (.int .u64 0) := HB6.out.op.cell 3 rfl
        have c4 : w6.cell? ⟨g3, 4, none⟩ = some (.int .i64 0) := HB6.out.op.cell 4 rfl
        have x0 := HB6.out.op.frozen 0
        have x1 := HB6.out.op.frozen 1
        have x2 := HB6.out.op.frozen 2
        have x3 := HB6.out.op.frozen 3
        have x4 := HB6.out.op.frozen 4
        have d1 : w6.cell? ⟨g4, 1, none⟩ = some (.bool true) := HB6.out.pa.cell 1 rfl
        have d2 : w6.cell? ⟨g4, 2, none⟩ = some (.bool false) := HB6.out.pa.cell 2 rfl
        have d3 : w6.cell? ⟨g4, 3, none⟩ = some (.bool true) := HB6.out.pa.cell 3 rfl
        have d4 : w6.cell? ⟨g4, 4, none⟩ = some (.bool true) := HB6.out.pa.cell 4 rfl
        have h6x := HB6.out.set1 X6
        obtain ⟨W7, hW6⟩ : ∃ W, W = w6.setCell ⟨g3, 1, none⟩ (.string X6) := ⟨_, rfl⟩
        rw [← hW6] at h6x
        have HA7 := Lib.hid h6x
        have HW6 := Lib.hid hW6
        clear h6x hW6
        go_upto_region 5 with fail
        rw [← HW6.out]
        clear HW6
        clear c0 c1 c2 c3 c4 x0 x1 x2 x3 x4 d1 d2 d3 d4
        have c0 : W7.cell? ⟨g3, 0, none⟩ = some (.int .i64 (n : Nat)) := HA7.out.op.cell 0 rfl
        have c1 : W7.cell? ⟨g3, 1, none⟩ = some (.string X6) := HA7.out.op.cell 1 rfl
        have c2 : W7.cell? ⟨g3, 2, none⟩ = some (.string ⟨#[]⟩) := HA7.out.op.cell 2 rfl
        have c3 : W7.cell? ⟨g3, 3, none⟩ = some (.int .u64 0) := HA7.out.op.cell 3 rfl
        have c4 : W7.cell? ⟨g3, 4, none⟩ = some (.int .i64 0) := HA7.out.op.cell 4 rfl
        have x0 := HA7.out.op.frozen 0
        have x1 := HA7.out.op.frozen 1
        have x2 := HA7.out.op.frozen 2
        have x3 := HA7.out.op.frozen 3
        have x4 := HA7.out.op.frozen 4
        have d1 : W7.cell? ⟨g4, 1, none⟩ = some (.bool true) := HA7.out.pa.cell 1 rfl
        have d2 : W7.cell? ⟨g4, 2, none⟩ = some (.bool false) := HA7.out.pa.cell 2 rfl
        have d3 : W7.cell? ⟨g4, 3, none⟩ = some (.bool true) := HA7.out.pa.cell 3 rfl
        have d4 : W7.cell? ⟨g4, 4, none⟩ = some (.bool true) := HA7.out.pa.cell 4 rfl
        have HC8 := Lib.hid (eyeTextF eb 64 s6 W7 HA7.out.eye (by omega))
        rcases hQ8 : eT 64 s6 with ⟨X8, s8⟩
        rw [hQ8] at HC8
        have HQ8 := Lib.hid hQ8
        clear hQ8
        go_wp2_with fail
        refine HC8.out.mono ?_
        rintro e w8 ⟨rfl, hr8⟩
        have HB8 := Lib.hid (HA7.out.step hr8)
        clear hr8 HC8
        clear c0 c1 c2 c3 c4 x0 x1 x2 x3 x4 d1 d2 d3 d4
        have c0 : w8.cell? ⟨g3, 0, none⟩ = some (.int .i64 (n : Nat)) := HB8.out.op.cell 0 rfl
        have c1 : w8.cell? ⟨g3, 1, none⟩ = some (.string X6) := HB8.out.op.cell 1 rfl
        have c2 : w8.cell? ⟨g3, 2, none⟩ = some (.string ⟨#[]⟩) := HB8.out.op.cell 2 rfl
        have c3 : w8.cell? ⟨g3, 3, none⟩ = some (.int .u64 0) := HB8.out.op.cell 3 rfl
        have c4 : w8.cell? ⟨g3, 4, none⟩ = some (.int .i64 0) := HB8.out.op.cell 4 rfl
        have x0 := HB8.out.op.frozen 0
        have x1 := HB8.out.op.frozen 1
        have x2 := HB8.out.op.frozen 2
        have x3 := HB8.out.op.frozen 3
        have x4 := HB8.out.op.frozen 4
        have d1 : w8.cell? ⟨g4, 1, none⟩ = some (.bool true) := HB8.out.pa.cell 1 rfl
        have d2 : w8.cell? ⟨g4, 2, none⟩ = some (.bool false) := HB8.out.pa.cell 2 rfl
        have d3 : w8.cell? ⟨g4, 3, none⟩ = some (.bool true) := HB8.out.pa.cell 3 rfl
        have d4 : w8.cell? ⟨g4, 4, none⟩ = some (.bool true) := HB8.out.pa.cell 4 rfl
        have h8x := HB8.out.set2 X8
        obtain ⟨W9, hW8⟩ : ∃ W, W = w8.setCell ⟨g3, 2, none⟩ (.string X8) := ⟨_, rfl⟩
        rw [← hW8] at h8x
        have HA9 := Lib.hid h8x
        have HW8 := Lib.hid hW8
        clear h8x hW8
        go_upto_region 7 with fail
        rw [← HW8.out]
        clear HW8
        clear c0 c1 c2 c3 c4 x0 x1 x2 x3 x4 d1 d2 d3 d4
        have c0 : W9.cell? ⟨g3, 0, none⟩ = some (.int .i64 (n : Nat)) := HA9.out.op.cell 0 rfl
        have c1 : W9.cell? ⟨g3, 1, none⟩ = some (.string X6) := HA9.out.op.cell 1 rfl
        have c2 : W9.cell? ⟨g3, 2, none⟩ = some (.string X8) := HA9.out.op.cell 2 rfl
        have c3 : W9.cell? ⟨g3, 3, none⟩ = some (.int .u64 0) := HA9.out.op.cell 3 rfl
        have c4 : W9.cell? ⟨g3, 4, none⟩ = some (.int .i64 0) := HA9.out.op.cell 4 rfl
        have x0 := HA9.out.op.frozen 0
        have x1 := HA9.out.op.frozen 1
        have x2 := HA9.out.op.frozen 2
        have x3 := HA9.out.op.frozen 3
        have x4 := HA9.out.op.frozen 4
        have d1 : W9.cell? ⟨g4, 1, none⟩ = some (.bool true) := HA9.out.pa.cell 1 rfl
        have d2 : W9.cell? ⟨g4, 2, none⟩ = some (.bool false) := HA9.out.pa.cell 2 rfl
        have d3 : W9.cell? ⟨g4, 3, none⟩ = some (.bool true) := HA9.out.pa.cell 3 rfl
        have d4 : W9.cell? ⟨g4, 4, none⟩ = some (.bool true) := HA9.out.pa.cell 4 rfl
        have HC10 := Lib.hid (eyeNumF eb 4096 s8 W9 HA9.out.eye)
        have hle10 := eN_le 4096 s8
        rcases hQ10 : eN 4096 s8 with ⟨X10, s10⟩
        rw [hQ10] at HC10 hle10
        simp only at hle10
        have HQ10 := Lib.hid hQ10
        clear hQ10
        go_wp2_with fail
        refine HC10.out.mono ?_
        rintro e w10 ⟨rfl, hr10⟩
        have HB10 := Lib.hid (HA9.out.step hr10)
        clear hr10 HC10
        clear c0 c1 c2 c3 c4 x0 x1 x2 x3 x4 d1 d2 d3 d4
        have c0 : w10.cell? ⟨g3, 0, none⟩ = some (.int .i64 (n : Nat)) := HB10.out.op.cell 0 rfl
        have c1 : w10.cell? ⟨g3, 1, none⟩ = some (.string X6) := HB10.out.op.cell 1 rfl
        have c2 : w10.cell? ⟨g3, 2, none⟩ = some (.string X8) := HB10.out.op.cell 2 rfl
        have c3 : w10.cell? ⟨g3, 3, none⟩ = some (.int .u64 0) := HB10.out.op.cell 3 rfl
        have c4 : w10.cell? ⟨g3, 4, none⟩ = some (.int .i64 0) := HB10.out.op.cell 4 rfl
        have x0 := HB10.out.op.frozen 0
        have x1 := HB10.out.op.frozen 1
        have x2 := HB10.out.op.frozen 2
        have x3 := HB10.out.op.frozen 3
        have x4 := HB10.out.op.frozen 4
        have d1 : w10.cell? ⟨g4, 1, none⟩ = some (.bool true) := HB10.out.pa.cell 1 rfl
        have d2 : w10.cell? ⟨g4, 2, none⟩ = some (.bool false) := HB10.out.pa.cell 2 rfl
        have d3 : w10.cell? ⟨g4, 3, none⟩ = some (.bool true) := HB10.out.pa.cell 3 rfl
        have d4 : w10.cell? ⟨g4, 4, none⟩ = some (.bool true) := HB10.out.pa.cell 4 rfl
        have h10x := HB10.out.set4 (X10 : Nat)
        obtain ⟨W11, hW10⟩ : ∃ W, W = w10.setCell ⟨g3, 4, none⟩ (.int .i64 (X10 : Nat)) := ⟨_, rfl⟩
        rw [← hW10] at h10x
        have HA11 := Lib.hid h10x
        have HW10 := Lib.hid hW10
        clear h10x hW10
        go_upto_region 11 with fail
        rw [← HW10.out]
        clear HW10
        clear c0 c1 c2 c3 c4 x0 x1 x2 x3 x4 d1 d2 d3 d4
        have c0 : W11.cell? ⟨g3, 0, none⟩ = some (.int .i64 (n : Nat)) := HA11.out.op.cell 0 rfl
        have c1 : W11.cell? ⟨g3, 1, none⟩ = some (.string X6) := HA11.out.op.cell 1 rfl
        have c2 : W11.cell? ⟨g3, 2, none⟩ = some (.string X8) := HA11.out.op.cell 2 rfl
        have c3 : W11.cell? ⟨g3, 3, none⟩ = some (.int .u64 0) := HA11.out.op.cell 3 rfl
        have c4 : W11.cell? ⟨g3, 4, none⟩ = some (.int .i64 (X10 : Nat)) := HA11.out.op.cell 4 rfl
        have x0 := HA11.out.op.frozen 0
        have x1 := HA11.out.op.frozen 1
        have x2 := HA11.out.op.frozen 2
        have x3 := HA11.out.op.frozen 3
        have x4 := HA11.out.op.frozen 4
        have d1 : W11.cell? ⟨g4, 1, none⟩ = some (.bool true) := HA11.out.pa.cell 1 rfl
        have d2 : W11.cell? ⟨g4, 2, none⟩ = some (.bool false) := HA11.out.pa.cell 2 rfl
        have d3 : W11.cell? ⟨g4, 3, none⟩ = some (.bool true) := HA11.out.pa.cell 3 rfl
        have d4 : W11.cell? ⟨g4, 4, none⟩ = some (.bool true) := HA11.out.pa.cell 4 rfl
        have r0 : W11.cell? ⟨w.heap.size, 0, none⟩ = some (.int .i64 0) := HA11.out.res.cell 0 rfl
        have y0 := HA11.out.res.frozen 0
        have r1 : W11.cell? ⟨w.heap.size, 1, none⟩ = some (.string ⟨#[]⟩) := HA11.out.res.cell 1 rfl
        have y1 := HA11.out.res.frozen 1
        have r2 : W11.cell? ⟨w.heap.size, 2, none⟩ = some (.string ⟨#[]⟩) := HA11.out.res.cell 2 rfl
        have y2 := HA11.out.res.frozen 2
        have r3 : W11.cell? ⟨w.heap.size, 3, none⟩ = some (.int .u64 0) := HA11.out.res.cell 3 rfl
        have y3 := HA11.out.res.frozen 3
        have r4 : W11.cell? ⟨w.heap.size, 4, none⟩ = some (.int .i64 0) := HA11.out.res.cell 4 rfl
        have y4 := HA11.out.res.frozen 4
        have hne := HA11.out.ne.2.2.2.1
        have HQQ : Hid (R = (⟨n, X6, X8, 0, (X10 : Nat)⟩, s10)) := Lib.hid (by rw [HR.out]; simp only [parseU, if_true, if_false, Bool.false_eq_true, HQ6.out, HQ8.out, HQ10.out])
        go_wp2
        refine bodyPost_ret (v := .agg #[.int .i64 (n : Nat), .string X6, .string X8, .int .u64 0, .int .i64 (X10 : Nat)]) (by simp [results, Tryd.results39, go_sem, *]) rfl ?_
        rw [HQQ.out]
        refine ⟨rfl, ?_⟩
        have hE := HA11.out.eye
        have hR2 := HA11.out.res
        have hW := HA11.out.ew
        exact readS_stored hE hR2 (fun e => HA11.out.ne.1 e) hW _ _ _ _ _
      | true =>
        have c0 : W5.cell? ⟨g3, 0, none⟩ = some (.int .i64 (n : Nat)) := HA5.out.op.cell 0 rfl
        have c1 : W5.cell? ⟨g3, 1, none⟩ = some (.string ⟨#[]⟩) := HA5.out.op.cell 1 rfl
        have c2 : W5.cell? ⟨g3, 2, none⟩ = some (.string ⟨#[]⟩) := HA5.out.op.cell 2 rfl
        have c3 : W5.cell? ⟨g3, 3, none⟩ = some (.int .u64 0) := HA5.out.op.cell 3 rfl
        have c4 : W5.cell? ⟨g3, 4, none⟩ = some (.int .i64 0) := HA5.out.op.cell 4 rfl
        have x0 := HA5.out.op.frozen 0
        have x1 := HA5.out.op.frozen 1
        have x2 := HA5.out.op.frozen 2
        have x3 := HA5.out.op.frozen 3
        have x4 := HA5.out.op.frozen 4
        have d1 : W5.cell? ⟨g4, 1, none⟩ = some (.bool true) := HA5.out.pa.cell 1 rfl
        have d2 : W5.cell? ⟨g4, 2, none⟩ = some (.bool true) := HA5.out.pa.cell 2 rfl
        have d3 : W5.cell? ⟨g4, 3, none⟩ = some (.bool true) := HA5.out.pa.cell 3 rfl
        have d4 : W5.cell? ⟨g4, 4, none⟩ = some (.bool true) := HA5.out.pa.cell 4 rfl
        have HC6 := Lib.hid (eyeTextF eb 64 s1 W5 HA5.out.eye (by omega))
        rcases hQ6 : eT 64 s1 with ⟨X6, s6⟩
        rw [hQ6] at HC6
        have HQ6 := Lib.hid hQ6
        clear hQ6
        go_wp2_with fail
        refine HC6.out.mono ?_
        rintro e w6 ⟨rfl, hr6⟩
        have HB6 := Lib.hid (HA5.out.step hr6)
        clear hr6 HC6
        clear c0 c1 c2 c3 c4 x0 x1 x2 x3 x4 d1 d2 d3 d4
        have c0 : w6.cell? ⟨g3, 0, none⟩ = some (.int .i64 (n : Nat)) := HB6.out.op.cell 0 rfl
        have c1 : w6.cell? ⟨g3, 1, none⟩ = some (.string ⟨#[]⟩) := HB6.out.op.cell 1 rfl
        have c2 : w6.cell? ⟨g3, 2, none⟩ = some (.string ⟨#[]⟩) := HB6.out.op.cell 2 rfl
        have c3 : w6.cell? ⟨g3, 3, none⟩ = some (.int .u64 0) := HB6.out.op.cell 3 rfl
        have c4 : w6.cell? ⟨g3, 4, none⟩ = some (.int .i64 0) := HB6.out.op.cell 4 rfl
        have x0 := HB6.out.op.frozen 0
        have x1 := HB6.out.op.frozen 1
        have x2 := HB6.out.op.frozen 2
        have x3 := HB6.out.op.frozen 3
        have x4 := HB6.out.op.frozen 4
        have d1 : w6.cell? ⟨g4, 1, none⟩ = some (.bool true) := HB6.out.pa.cell 1 rfl
        have d2 : w6.cell? ⟨g4, 2, none⟩ = some (.bool true) := HB6.out.pa.cell 2 rfl
        have d3 : w6.cell? ⟨g4, 3, none⟩ = some (.bool true) := HB6.out.pa.cell 3 rfl
        have d4 : w6.cell? ⟨g4, 4, none⟩ = some (.bool true) := HB6.out.pa.cell 4 rfl
        have h6x := HB6.out.set1 X6
        obtain ⟨W7, hW6⟩ : ∃ W, W = w6.setCell ⟨g3, 1, none⟩ (.string X6) := ⟨_, rfl⟩
        rw [← hW6] at h6x
        have HA7 := Lib.hid h6x
        have HW6 := Lib.hid hW6
        clear h6x hW6
        go_upto_region 5 with fail
        rw [← HW6.out]
        clear HW6
        clear c0 c1 c2 c3 c4 x0 x1 x2 x3 x4 d1 d2 d3 d4
        have c0 : W7.cell? ⟨g3, 0, none⟩ = some (.int .i64 (n : Nat)) := HA7.out.op.cell 0 rfl
        have c1 : W7.cell? ⟨g3, 1, none⟩ = some (.string X6) := HA7.out.op.cell 1 rfl
        have c2 : W7.cell? ⟨g3, 2, none⟩ = some (.string ⟨#[]⟩) := HA7.out.op.cell 2 rfl
        have c3 : W7.cell? ⟨g3, 3, none⟩ = some (.int .u64 0) := HA7.out.op.cell 3 rfl
        have c4 : W7.cell? ⟨g3, 4, none⟩ = some (.int .i64 0) := HA7.out.op.cell 4 rfl
        have x0 := HA7.out.op.frozen 0
        have x1 := HA7.out.op.frozen 1
        have x2 := HA7.out.op.frozen 2
        have x3 := HA7.out.op.frozen 3
        have x4 := HA7.out.op.frozen 4
        have d1 : W7.cell? ⟨g4, 1, none⟩ = some (.bool true) := HA7.out.pa.cell 1 rfl
        have d2 : W7.cell? ⟨g4, 2, none⟩ = some (.bool true) := HA7.out.pa.cell 2 rfl
        have d3 : W7.cell? ⟨g4, 3, none⟩ = some (.bool true) := HA7.out.pa.cell 3 rfl
        have d4 : W7.cell? ⟨g4, 4, none⟩ = some (.bool true) := HA7.out.pa.cell 4 rfl
        have HC8 := Lib.hid (eyeTextF eb 64 s6 W7 HA7.out.eye (by omega))
        rcases hQ8 : eT 64 s6 with ⟨X8, s8⟩
        rw [hQ8] at HC8
        have HQ8 := Lib.hid hQ8
        clear hQ8
        go_wp2_with fail
        refine HC8.out.mono ?_
        rintro e w8 ⟨rfl, hr8⟩
        have HB8 := Lib.hid (HA7.out.step hr8)
        clear hr8 HC8
        clear c0 c1 c2 c3 c4 x0 x1 x2 x3 x4 d1 d2 d3 d4
        have c0 : w8.cell? ⟨g3, 0, none⟩ = some (.int .i64 (n : Nat)) := HB8.out.op.cell 0 rfl
        have c1 : w8.cell? ⟨g3, 1, none⟩ = some (.string X6) := HB8.out.op.cell 1 rfl
        have c2 : w8.cell? ⟨g3, 2, none⟩ = some (.string ⟨#[]⟩) := HB8.out.op.cell 2 rfl
        have c3 : w8.cell? ⟨g3, 3, none⟩ = some (.int .u64 0) := HB8.out.op.cell 3 rfl
        have c4 : w8.cell? ⟨g3, 4, none⟩ = some (.int .i64 0) := HB8.out.op.cell 4 rfl
        have x0 := HB8.out.op.frozen 0
        have x1 := HB8.out.op.frozen 1
        have x2 := HB8.out.op.frozen 2
        have x3 := HB8.out.op.frozen 3
        have x4 := HB8.out.op.frozen 4
        have d1 : w8.cell? ⟨g4, 1, none⟩ = some (.bool true) := HB8.out.pa.cell 1 rfl
        have d2 : w8.cell? ⟨g4, 2, none⟩ = some (.bool true) := HB8.out.pa.cell 2 rfl
        have d3 : w8.cell? ⟨g4, 3, none⟩ = some (.bool true) := HB8.out.pa.cell 3 rfl
        have d4 : w8.cell? ⟨g4, 4, none⟩ = some (.bool true) := HB8.out.pa.cell 4 rfl
        have h8x := HB8.out.set2 X8
        obtain ⟨W9, hW8⟩ : ∃ W, W = w8.setCell ⟨g3, 2, none⟩ (.string X8) := ⟨_, rfl⟩
        rw [← hW8] at h8x
        have HA9 := Lib.hid h8x
        have HW8 := Lib.hid hW8
        clear h8x hW8
        go_upto_region 7 with fail
        rw [← HW8.out]
        clear HW8
        clear c0 c1 c2 c3 c4 x0 x1 x2 x3 x4 d1 d2 d3 d4
        have c0 : W9.cell? ⟨g3, 0, none⟩ = some (.int .i64 (n : Nat)) := HA9.out.op.cell 0 rfl
        have c1 : W9.cell? ⟨g3, 1, none⟩ = some (.string X6) := HA9.out.op.cell 1 rfl
        have c2 : W9.cell? ⟨g3, 2, none⟩ = some (.string X8) := HA9.out.op.cell 2 rfl
        have c3 : W9.cell? ⟨g3, 3, none⟩ = some (.int .u64 0) := HA9.out.op.cell 3 rfl
        have c4 : W9.cell? ⟨g3, 4, none⟩ = some (.int .i64 0) := HA9.out.op.cell 4 rfl
        have x0 := HA9.out.op.frozen 0
        have x1 := HA9.out.op.frozen 1
        have x2 := HA9.out.op.frozen 2
        have x3 := HA9.out.op.frozen 3
        have x4 := HA9.out.op.frozen 4
        have d1 : W9.cell? ⟨g4, 1, none⟩ = some (.bool true) := HA9.out.pa.cell 1 rfl
        have d2 : W9.cell? ⟨g4, 2, none⟩ = some (.bool true) := HA9.out.pa.cell 2 rfl
        have d3 : W9.cell? ⟨g4, 3, none⟩ = some (.bool true) := HA9.out.pa.cell 3 rfl
        have d4 : W9.cell? ⟨g4, 4, none⟩ = some (.bool true) := HA9.out.pa.cell 4 rfl
        have HC10 := Lib.hid (eyeNumF eb 18446744073709551615 s8 W9 HA9.out.eye)
        have hle10 := eN_le 18446744073709551615 s8
        rcases hQ10 : eN 18446744073709551615 s8 with ⟨X10, s10⟩
        rw [hQ10] at HC10 hle10
        simp only at hle10
        have HQ10 := Lib.hid hQ10
        clear hQ10
        go_wp2_with fail
        refine HC10.out.mono ?_
        rintro e w10 ⟨rfl, hr10⟩
        have HB10 := Lib.hid (HA9.out.step hr10)
        clear hr10 HC10
        clear c0 c1 c2 c3 c4 x0 x1 x2 x3 x4 d1 d2 d3 d4
        have c0 : w10.cell? ⟨g3, 0, none⟩ = some (.int .i64 (n : Nat)) := HB10.out.op.cell 0 rfl
        have c1 : w10.cell? ⟨g3, 1, none⟩ = some (.string X6) := HB10.out.op.cell 1 rfl
        have c2 : w10.cell? ⟨g3, 2, none⟩ = some (.string X8) := HB10.out.op.cell 2 rfl
        have c3 : w10.cell? ⟨g3, 3, none⟩ = some (.int .u64 0) := HB10.out.op.cell 3 rfl
        have c4 : w10.cell? ⟨g3, 4, none⟩ = some (.int .i64 0) := HB10.out.op.cell 4 rfl
        have x0 := HB10.out.op.frozen 0
        have x1 := HB10.out.op.frozen 1
        have x2 := HB10.out.op.frozen 2
        have x3 := HB10.out.op.frozen 3
        have x4 := HB10.out.op.frozen 4
        have d1 : w10.cell? ⟨g4, 1, none⟩ = some (.bool true) := HB10.out.pa.cell 1 rfl
        have d2 : w10.cell? ⟨g4, 2, none⟩ = some (.bool true) := HB10.out.pa.cell 2 rfl
        have d3 : w10.cell? ⟨g4, 3, none⟩ = some (.bool true) := HB10.out.pa.cell 3 rfl
        have d4 : w10.cell? ⟨g4, 4, none⟩ = some (.bool true) := HB10.out.pa.cell 4 rfl
        have h10x := HB10.out.set3 (X10 : Nat)
        obtain ⟨W11, hW10⟩ : ∃ W, W = w10.setCell ⟨g3, 3, none⟩ (.int .u64 (X10 : Nat)) := ⟨_, rfl⟩
        rw [← hW10] at h10x
        have HA11 := Lib.hid h10x
        have HW10 := Lib.hid hW10
        clear h10x hW10
        go_upto_region 9 with fail
        rw [← HW10.out]
        clear HW10
        clear c0 c1 c2 c3 c4 x0 x1 x2 x3 x4 d1 d2 d3 d4
        have c0 : W11.cell? ⟨g3, 0, none⟩ = some (.int .i64 (n : Nat)) := HA11.out.op.cell 0 rfl
        have c1 : W11.cell? ⟨g3, 1, none⟩ = some (.string X6) := HA11.out.op.cell 1 rfl
        have c2 : W11.cell? ⟨g3, 2, none⟩ = some (.string X8) := HA11.out.op.cell 2 rfl
        have c3 : W11.cell? ⟨g3, 3, none⟩ = some (.int .u64 (X10 : Nat)) := HA11.out.op.cell 3 rfl
        have c4 : W11.cell? ⟨g3, 4, none⟩ = some (.int .i64 0) := HA11.out.op.cell 4 rfl
        have x0 := HA11.out.op.frozen 0
        have x1 := HA11.out.op.frozen 1
        have x2 := HA11.out.op.frozen 2
        have x3 := HA11.out.op.frozen 3
        have x4 := HA11.out.op.frozen 4
        have d1 : W11.cell? ⟨g4, 1, none⟩ = some (.bool true) := HA11.out.pa.cell 1 rfl
        have d2 : W11.cell? ⟨g4, 2, none⟩ = some (.bool true) := HA11.out.pa.cell 2 rfl
        have d3 : W11.cell? ⟨g4, 3, none⟩ = some (.bool true) := HA11.out.pa.cell 3 rfl
        have d4 : W11.cell? ⟨g4, 4, none⟩ = some (.bool true) := HA11.out.pa.cell 4 rfl
        have HC12 := Lib.hid (eyeNumF eb 4096 s10 W11 HA11.out.eye)
        have hle12 := eN_le 4096 s10
        rcases hQ12 : eN 4096 s10 with ⟨X12, s12⟩
        rw [hQ12] at HC12 hle12
        simp only at hle12
        have HQ12 := Lib.hid hQ12
        clear hQ12
        go_wp2_with fail
        refine HC12.out.mono ?_
        rintro e w12 ⟨rfl, hr12⟩
        have HB12 := Lib.hid (HA11.out.step hr12)
        clear hr12 HC12
        clear c0 c1 c2 c3 c4 x0 x1 x2 x3 x4 d1 d2 d3 d4
        have c0 : w12.cell? ⟨g3, 0, none⟩ = some (.int .i64 (n : Nat)) := HB12.out.op.cell 0 rfl
        have c1 : w12.cell? ⟨g3, 1, none⟩ = some (.string X6) := HB12.out.op.cell 1 rfl
        have c2 : w12.cell? ⟨g3, 2, none⟩ = some (.string X8) := HB12.out.op.cell 2 rfl
        have c3 : w12.cell? ⟨g3, 3, none⟩ = some (.int .u64 (X10 : Nat)) := HB12.out.op.cell 3 rfl
        have c4 : w12.cell? ⟨g3, 4, none⟩ = some (.int .i64 0) := HB12.out.op.cell 4 rfl
        have x0 := HB12.out.op.frozen 0
        have x1 := HB12.out.op.frozen 1
        have x2 := HB12.out.op.frozen 2
        have x3 := HB12.out.op.frozen 3
        have x4 := HB12.out.op.frozen 4
        have d1 : w12.cell? ⟨g4, 1, none⟩ = some (.bool true) := HB12.out.pa.cell 1 rfl
        have d2 : w12.cell? ⟨g4, 2, none⟩ = some (.bool true) := HB12.out.pa.cell 2 rfl
        have d3 : w12.cell? ⟨g4, 3, none⟩ = some (.bool true) := HB12.out.pa.cell 3 rfl
        have d4 : w12.cell? ⟨g4, 4, none⟩ = some (.bool true) := HB12.out.pa.cell 4 rfl
        have h12x := HB12.out.set4 (X12 : Nat)
        obtain ⟨W13, hW12⟩ : ∃ W, W = w12.setCell ⟨g3, 4, none⟩ (.int .i64 (X12 : Nat)) := ⟨_, rfl⟩
        rw [← hW12] at h12x
        have HA13 := Lib.hid h12x
        have HW12 := Lib.hid hW12
        clear h12x hW12
        go_upto_region 11 with fail
        rw [← HW12.out]
        clear HW12
        clear c0 c1 c2 c3 c4 x0 x1 x2 x3 x4 d1 d2 d3 d4
        have c0 : W13.cell? ⟨g3, 0, none⟩ = some (.int .i64 (n : Nat)) := HA13.out.op.cell 0 rfl
        have c1 : W13.cell? ⟨g3, 1, none⟩ = some (.string X6) := HA13.out.op.cell 1 rfl
        have c2 : W13.cell? ⟨g3, 2, none⟩ = some (.string X8) := HA13.out.op.cell 2 rfl
        have c3 : W13.cell? ⟨g3, 3, none⟩ = some (.int .u64 (X10 : Nat)) := HA13.out.op.cell 3 rfl
        have c4 : W13.cell? ⟨g3, 4, none⟩ = some (.int .i64 (X12 : Nat)) := HA13.out.op.cell 4 rfl
        have x0 := HA13.out.op.frozen 0
        have x1 := HA13.out.op.frozen 1
        have x2 := HA13.out.op.frozen 2
        have x3 := HA13.out.op.frozen 3
        have x4 := HA13.out.op.frozen 4
        have d1 : W13.cell? ⟨g4, 1, none⟩ = some (.bool true) := HA13.out.pa.cell 1 rfl
        have d2 : W13.cell? ⟨g4, 2, none⟩ = some (.bool true) := HA13.out.pa.cell 2 rfl
        have d3 : W13.cell? ⟨g4, 3, none⟩ = some (.bool true) := HA13.out.pa.cell 3 rfl
        have d4 : W13.cell? ⟨g4, 4, none⟩ = some (.bool true) := HA13.out.pa.cell 4 rfl
        have r0 : W13.cell? ⟨w.heap.size, 0, none⟩ = some (.int .i64 0) := HA13.out.res.cell 0 rfl
        have y0 := HA13.out.res.frozen 0
        have r1 : W13.cell? ⟨w.heap.size, 1, none⟩ = some (.string ⟨#[]⟩) := HA13.out.res.cell 1 rfl
        have y1 := HA13.out.res.frozen 1
        have r2 : W13.cell? ⟨w.heap.size, 2, none⟩ = some (.string ⟨#[]⟩) := HA13.out.res.cell 2 rfl
        have y2 := HA13.out.res.frozen 2
        have r3 : W13.cell? ⟨w.heap.size, 3, none⟩ = some (.int .u64 0) := HA13.out.res.cell 3 rfl
        have y3 := HA13.out.res.frozen 3
        have r4 : W13.cell? ⟨w.heap.size, 4, none⟩ = some (.int .i64 0) := HA13.out.res.cell 4 rfl
        have y4 := HA13.out.res.frozen 4
        have hne := HA13.out.ne.2.2.2.1
        have HQQ : Hid (R = (⟨n, X6, X8, (X10 : Nat), (X12 : Nat)⟩, s12)) := Lib.hid (by rw [HR.out]; simp only [parseU, if_true, HQ6.out, HQ8.out, HQ10.out, HQ12.out])
        go_wp2
        refine bodyPost_ret (v := .agg #[.int .i64 (n : Nat), .string X6, .string X8, .int .u64 (X10 : Nat), .int .i64 (X12 : Nat)]) (by simp [results, Tryd.results39, go_sem, *]) rfl ?_
        rw [HQQ.out]
        refine ⟨rfl, ?_⟩
        have hE := HA13.out.eye
        have hR2 := HA13.out.res
        have hW := HA13.out.ew
        exact readS_stored hE hR2 (fun e => HA13.out.ne.1 e) hW _ _ _ _ _
end Go.Proofs.YtmkglaghnjnooaaDoor
