/- op.write: one operation's bytes. Conditions: texts that fit, fewer than 2^40 bytes written. -/
import Derived.Test.YtmkglaghnjnooaaDoorOpPlain
import Derived.Test.YtmkglaghnjnooaaDoorPenText
namespace Go.Proofs.YtmkglaghnjnooaaDoor
open Go.RowKit

def txtL (s : ByteArray) : List UInt8 := Lib.uvarint s.size ++ s.data.toList
/-- A sound operation's bytes, by what its kind uses. -/
def opBytesU (bk bt bv : Bool) (k : Int) (key tx : ByteArray) (v : Nat) (lim : Int) : List UInt8 :=
  Lib.uvarint k.toNat ++ ((if bk = true then txtL key else []) ++ ((if bt = true then txtL tx else []) ++ ((if bv = true then Lib.uvarint v else []) ++ (if bt = true then Lib.uvarint lim.toNat else []))))
/-- An operation's bytes. -/
def opBytes (k : Int) (key tx : ByteArray) (v : Nat) (lim : Int) : List UInt8 :=
  if opSoundB k key tx lim = true then opBytesU (usK k) (usT k) (usV k) k key tx v lim else Lib.uvarint 0

theorem opSound_parts {k : Int} {key tx : ByteArray} {lim : Int} (h : opSoundB k key tx lim = true) : (1 ≤ k ∧ k ≤ 10) ∧ (usK k = true → 1 ≤ key.size ∧ key.size ≤ 64) ∧ (usT k = true → (1 ≤ tx.size ∧ tx.size ≤ 64) ∧ 0 ≤ lim ∧ lim ≤ 4096) := by
  refine ⟨opSound_kind h, ?_, ?_⟩
  · intro hk
    unfold opSoundB at h
    simp only [hk, Bool.and_eq_true, Bool.not_true, Bool.false_or] at h
    have := h.1.1.2
    unfold opKeyB at this
    rw [decide_eq_true_iff] at this
    exact this
  · intro ht
    unfold opSoundB endB limB opKeyB at h
    simp only [ht, Bool.and_eq_true, Bool.not_true, Bool.false_or, decide_eq_true_iff] at h
    exact ⟨h.1.2.1, h.2⟩

theorem Pen.under {w w' : World} {B pb : Nat} {l : List UInt8} (h : Pen w B pb l) (hb : Below w.heap.size w w') : Pen w' B pb l :=
  h.keep fun k hk => hb.block k (by rcases hk with rfl | hk; exact h.lt; exact (h.row k hk).2.1)
theorem penRow_under {w w' : World} {B pb : Nat} {l : List UInt8} (h : Pen w B pb l) (hb : Below w.heap.size w w') : penRow w' pb = penRow w pb := by
  unfold penRow
  rw [World.cell?_of_block (w := w) (a := ⟨pb, 0, none⟩) (hb.block pb h.lt)]
theorem Wr.under {w w' : World} {B pb : Nat} {l : List UInt8} (h : Pen w B pb l) (hb : Below w.heap.size w w') : Wr pb w w' :=
  ⟨hb.os, hb.tape, hb.output, hb.size, fun k hk _ _ => hb.block k hk, Or.inl (penRow_under h hb)⟩

/-- While it is written: the operation's box, its parts' box. -/
structure WAt (w W : World) (B pb A0 Ap : Nat) (cs ps : Array Value) (l : List UInt8) : Prop where
  pen : Pen W B pb l
  op : BX W A0 24 cs
  pa : BX W Ap 53 ps
  n0 : A0 ≠ pb ∧ some A0 ≠ penRow W pb
  np : Ap ≠ pb ∧ some Ap ≠ penRow W pb
  wr : Wr pb w W
theorem WAt.step {w W W' : World} {B pb A0 Ap : Nat} {cs ps : Array Value} {l l' : List UInt8} (h : WAt w W B pb A0 Ap cs ps l) (hd : DigitsDone W W' B pb l') : WAt w W' B pb A0 Ap cs ps l' := by
  obtain ⟨hp, hw⟩ := hd
  have h0 := lt_of_block h.op
  have h1 := lt_of_block h.pa
  refine ⟨hp, (hw.block A0 h0 h.n0.1 h.n0.2).trans h.op, (hw.block Ap h1 h.np.1 h.np.2).trans h.pa, ⟨h.n0.1, ?_⟩, ⟨h.np.1, ?_⟩, h.wr.trans hw⟩
  · rcases hw.row with e | ⟨g, e, hg⟩
    · rw [e]; exact h.n0.2
    · rw [e]; intro e2; injection e2 with e2; omega
  · rcases hw.row with e | ⟨g, e, hg⟩
    · rw [e]; exact h.np.2
    · rw [e]; intro e2; injection e2 with e2; omega

set_option maxHeartbeats 8000000 in
set_option maxRecDepth 100000 in
theorem opWrite1_any (B pb : Nat) (k : Int) (key tx : ByteArray) (v : Nat) (lim : Int) (l : List UInt8) (w : World) (h1 : tx.size ≤ 140737488355328) (h2 : key.size ≤ 140737488355328) (hv : v < 18446744073709551616) (hl : l.length ≤ 1099511627776) (hpen : Pen w B pb l) (hB : B ≤ w.heap.size) :
    Calls Tryd.prog 36 #[.pointer (some ⟨pb, 0, none⟩), .agg #[.int .i64 k, .string key, .string tx, .int .u64 (v : Nat), .int .i64 lim]] w fun e w' => e = .returned (.tuple #[]) ∧ DigitsDone w w' B pb (l ++ opBytes k key tx v lim) := by
  have HC := Lib.hid (fun W => opCheck_any k key tx v lim W h1 h2)
  have HU := Lib.hid (fun W => used_any k W)
  unfold partsV at HU
  have HPA := Lib.hid (opSound_parts (k := k) (key := key) (tx := tx) (lim := lim))
  obtain ⟨R, hR⟩ : ∃ R, R = opBytes k key tx v lim := ⟨_, rfl⟩
  rw [← hR]
  unfold opBytes at hR
  have HR := Lib.hid hR
  clear hR
  generalize opSoundB k key tx lim = sd at *
  have n0 := BX.new w 24 #[.int .i64 k, .string key, .string tx, .int .u64 (v : Nat), .int .i64 lim]
  have hx := boxed_below w (.cells #[.int .i64 k, .string key, .string tx, .int .u64 (v : Nat), .int .i64 lim] 24)
  obtain ⟨W1, hW1⟩ : ∃ W, W = w.alloc (.cells #[.int .i64 k, .string key, .string tx, .int .u64 (v : Nat), .int .i64 lim] 24) := ⟨_, rfl⟩
  rw [← hW1] at n0 hx
  have HN := Lib.hid n0
  have HX := Lib.hid hx
  have HW := Lib.hid hW1
  have HP := Lib.hid hpen
  have HBB := Lib.hid hB
  have c0 : W1.cell? ⟨w.heap.size, 0, none⟩ = some (.int .i64 k) := n0.cell 0 rfl
  have c1 : W1.cell? ⟨w.heap.size, 1, none⟩ = some (.string key) := n0.cell 1 rfl
  have c2 : W1.cell? ⟨w.heap.size, 2, none⟩ = some (.string tx) := n0.cell 2 rfl
  have c3 : W1.cell? ⟨w.heap.size, 3, none⟩ = some (.int .u64 (v : Nat)) := n0.cell 3 rfl
  have c4 : W1.cell? ⟨w.heap.size, 4, none⟩ = some (.int .i64 lim) := n0.cell 4 rfl
  clear n0 hx hW1 h1 h2 hpen hB
  go_enter Tryd.func36, Tryd.ntmps36
  go_upto_region 1 with fail
  rw [← HW.out]
  clear HW
  go_wp2_with fail
  refine (HC.out _).mono ?_
  rintro e w2 ⟨rfl, hb2⟩
  have HB2 := Lib.hid (HX.out.trans (hb2.mono HX.out.size))
  have HN2 := Lib.hid (HN.out.below hb2)
  clear hb2 c0 c1 c2 c3 c4 HC
  have hBs : B ≤ w2.heap.size := Nat.le_trans HBB.out HB2.out.size
  cases sd with
  | false =>
    go_wp2_with fail
    refine (num_one B pb 0 l w2 (by omega) (by omega) (HP.out.under HB2.out) hBs _ rfl).mono ?_
    rintro e w3 ⟨rfl, hd3⟩
    go_wp2
    refine bodyPost_ret (v := .tuple #[]) (by simp [results, Tryd.results36, go_sem]) rfl ?_
    refine ⟨rfl, ?_, (Wr.under HP.out HB2.out).trans hd3.2⟩
    rw [HR.out]
    exact hd3.1
  | true =>
  obtain ⟨⟨hk1, hk2⟩, hky, htx⟩ := HPA.out rfl
  obtain ⟨n, rfl⟩ : ∃ n : Nat, k = n := ⟨k.toNat, by omega⟩
  have c0 : w2.cell? ⟨w.heap.size, 0, none⟩ = some (.int .i64 (n : Nat)) := HN2.out.cell 0 rfl
  generalize usI (n : Int) = bi at *
  generalize usK (n : Int) = bk at *
  generalize usV (n : Int) = bv at *
  generalize usT (n : Int) = bt at *
  go_wp2_with fail
  refine (HU.out _).mono ?_
  rintro e w3 ⟨rfl, hb3⟩
  have m0 := BX.new w3 53 #[.bool bi, .bool bk, .bool bv, .bool bt, .bool bt]
  have hx3 := boxed_below w3 (.cells #[.bool bi, .bool bk, .bool bv, .bool bt, .bool bt] 53)
  obtain ⟨W4, hW4⟩ : ∃ W, W = w3.alloc (.cells #[.bool bi, .bool bk, .bool bv, .bool bt, .bool bt] 53) := ⟨_, rfl⟩
  rw [← hW4] at m0 hx3
  have HB4 : Hid (Below w.heap.size w W4) := Lib.hid ((HB2.out.trans (hb3.mono HB2.out.size)).trans (hx3.mono (Nat.le_trans HB2.out.size hb3.size)))
  have HW4 := Lib.hid hW4
  have HA4 : Hid (WAt w W4 B pb w.heap.size w3.heap.size #[.int .i64 (n : Nat), .string key, .string tx, .int .u64 (v : Nat), .int .i64 lim] #[.bool bi, .bool bk, .bool bv, .bool bt, .bool bt] l) := Lib.hid (by
    have hlt := HP.out.lt
    have hrow := HP.out.row
    have h3 : w.heap.size ≤ w3.heap.size := Nat.le_trans HB2.out.size hb3.size
    refine ⟨HP.out.under HB4.out, (HN2.out.below hb3).below hx3, m0, ⟨by omega, ?_⟩, ⟨by omega, ?_⟩, Wr.under HP.out HB4.out⟩
    · rw [penRow_under HP.out HB4.out]; intro e; have := (hrow _ e.symm).2.1; omega
    · rw [penRow_under HP.out HB4.out]; intro e; have := (hrow _ e.symm).2.1; omega)
  clear m0 hx3 hb3 hW4 c0 HN2 HN HX HU
  have hBs4 : B ≤ W4.heap.size := Nat.le_trans HBB.out HB4.out.size
  go_upto_region 4 with fail
  rw [← HW4.out]
  clear HW4
  obtain ⟨g, hg⟩ : ∃ g, g = w3.heap.size := ⟨_, rfl⟩
  rw [← hg] at HA4 ⊢
  clear hg
  have hun := Lib.uvarint_length64 (x := n) (by omega)
  have hukk := Lib.uvarint_length64 (x := key.size)
  have hutt := Lib.uvarint_length64 (x := tx.size)
  have hvn := Lib.uvarint_length64 hv
  cases bk with
  | false =>
    cases bt with
    | false =>
      cases bv with
      | false =>
        clear hukk hutt
        have c0 : W4.cell? ⟨w.heap.size, 0, none⟩ = some (.int .i64 (n : Nat)) := HA4.out.op.cell 0 rfl
        have c1 : W4.cell? ⟨w.heap.size, 1, none⟩ = some (.string key) := HA4.out.op.cell 1 rfl
        have c2 : W4.cell? ⟨w.heap.size, 2, none⟩ = some (.string tx) := HA4.out.op.cell 2 rfl
        have c3 : W4.cell? ⟨w.heap.size, 3, none⟩ = some (.int .u64 (v : Nat)) := HA4.out.op.cell 3 rfl
        have c4 : W4.cell? ⟨w.heap.size, 4, none⟩ = some (.int .i64 lim) := HA4.out.op.cell 4 rfl
        have d1 : W4.cell? ⟨g, 1, none⟩ = some (.bool false) := HA4.out.pa.cell 1 rfl
        have d2 : W4.cell? ⟨g, 2, none⟩ = some (.bool false) := HA4.out.pa.cell 2 rfl
        have d3 : W4.cell? ⟨g, 3, none⟩ = some (.bool false) := HA4.out.pa.cell 3 rfl
        have d4 : W4.cell? ⟨g, 4, none⟩ = some (.bool false) := HA4.out.pa.cell 4 rfl
        go_wp2_with fail
        refine (num_one B pb n l _ (by omega) (by (try simp only [List.length_append]); (try simp only [size_list]); omega) HA4.out.pen hBs4 _ rfl).mono ?_
        rintro e w5 ⟨rfl, hd5⟩
        have HA5 := Lib.hid (HA4.out.step hd5)
        have hBs5 : B ≤ w5.heap.size := Nat.le_trans hBs4 hd5.2.size
        clear hd5
        clear c0 c1 c2 c3 c4 d1 d2 d3 d4
        have c0 : w5.cell? ⟨w.heap.size, 0, none⟩ = some (.int .i64 (n : Nat)) := HA5.out.op.cell 0 rfl
        have c1 : w5.cell? ⟨w.heap.size, 1, none⟩ = some (.string key) := HA5.out.op.cell 1 rfl
        have c2 : w5.cell? ⟨w.heap.size, 2, none⟩ = some (.string tx) := HA5.out.op.cell 2 rfl
        have c3 : w5.cell? ⟨w.heap.size, 3, none⟩ = some (.int .u64 (v : Nat)) := HA5.out.op.cell 3 rfl
        have c4 : w5.cell? ⟨w.heap.size, 4, none⟩ = some (.int .i64 lim) := HA5.out.op.cell 4 rfl
        have d1 : w5.cell? ⟨g, 1, none⟩ = some (.bool false) := HA5.out.pa.cell 1 rfl
        have d2 : w5.cell? ⟨g, 2, none⟩ = some (.bool false) := HA5.out.pa.cell 2 rfl
        have d3 : w5.cell? ⟨g, 3, none⟩ = some (.bool false) := HA5.out.pa.cell 3 rfl
        have d4 : w5.cell? ⟨g, 4, none⟩ = some (.bool false) := HA5.out.pa.cell 4 rfl
        go_wp2
        go_end0
        refine ⟨rfl, ?_, HA5.out.wr⟩
        have hfin := HA5.out.pen
        rw [HR.out]
        simpa only [opBytesU, txtL, if_true, if_false, Bool.false_eq_true, Int.toNat_natCast, List.append_assoc, List.append_nil, List.nil_append] using hfin
      | true =>
        clear hukk hutt
        have c0 : W4.cell? ⟨w.heap.size, 0, none⟩ = some (.int .i64 (n : Nat)) := HA4.out.op.cell 0 rfl
        have c1 : W4.cell? ⟨w.heap.size, 1, none⟩ = some (.string key) := HA4.out.op.cell 1 rfl
        have c2 : W4.cell? ⟨w.heap.size, 2, none⟩ = some (.string tx) := HA4.out.op.cell 2 rfl
        have c3 : W4.cell? ⟨w.heap.size, 3, none⟩ = some (.int .u64 (v : Nat)) := HA4.out.op.cell 3 rfl
        have c4 : W4.cell? ⟨w.heap.size, 4, none⟩ = some (.int .i64 lim) := HA4.out.op.cell 4 rfl
        have d1 : W4.cell? ⟨g, 1, none⟩ = some (.bool false) := HA4.out.pa.cell 1 rfl
        have d2 : W4.cell? ⟨g, 2, none⟩ = some (.bool true) := HA4.out.pa.cell 2 rfl
        have d3 : W4.cell? ⟨g, 3, none⟩ = some (.bool false) := HA4.out.pa.cell 3 rfl
        have d4 : W4.cell? ⟨g, 4, none⟩ = some (.bool false) := HA4.out.pa.cell 4 rfl
        go_wp2_with fail
        refine (num_one B pb n l _ (by omega) (by (try simp only [List.length_append]); (try simp only [size_list]); omega) HA4.out.pen hBs4 _ rfl).mono ?_
        rintro e w5 ⟨rfl, hd5⟩
        have HA5 := Lib.hid (HA4.out.step hd5)
        have hBs5 : B ≤ w5.heap.size := Nat.le_trans hBs4 hd5.2.size
        clear hd5
        clear c0 c1 c2 c3 c4 d1 d2 d3 d4
        have c0 : w5.cell? ⟨w.heap.size, 0, none⟩ = some (.int .i64 (n : Nat)) := HA5.out.op.cell 0 rfl
        have c1 : w5.cell? ⟨w.heap.size, 1, none⟩ = some (.string key) := HA5.out.op.cell 1 rfl
        have c2 : w5.cell? ⟨w.heap.size, 2, none⟩ = some (.string tx) := HA5.out.op.cell 2 rfl
        have c3 : w5.cell? ⟨w.heap.size, 3, none⟩ = some (.int .u64 (v : Nat)) := HA5.out.op.cell 3 rfl
        have c4 : w5.cell? ⟨w.heap.size, 4, none⟩ = some (.int .i64 lim) := HA5.out.op.cell 4 rfl
        have d1 : w5.cell? ⟨g, 1, none⟩ = some (.bool false) := HA5.out.pa.cell 1 rfl
        have d2 : w5.cell? ⟨g, 2, none⟩ = some (.bool true) := HA5.out.pa.cell 2 rfl
        have d3 : w5.cell? ⟨g, 3, none⟩ = some (.bool false) := HA5.out.pa.cell 3 rfl
        have d4 : w5.cell? ⟨g, 4, none⟩ = some (.bool false) := HA5.out.pa.cell 4 rfl
        go_wp2_with fail
        refine (num_one B pb v (l ++ Lib.uvarint n) _ hv (by (try simp only [List.length_append]); (try simp only [size_list]); omega) HA5.out.pen hBs5 _ rfl).mono ?_
        rintro e w6 ⟨rfl, hd6⟩
        have HA6 := Lib.hid (HA5.out.step hd6)
        have hBs6 : B ≤ w6.heap.size := Nat.le_trans hBs5 hd6.2.size
        clear hd6
        clear c0 c1 c2 c3 c4 d1 d2 d3 d4
        have c0 : w6.cell? ⟨w.heap.size, 0, none⟩ = some (.int .i64 (n : Nat)) := HA6.out.op.cell 0 rfl
        have c1 : w6.cell? ⟨w.heap.size, 1, none⟩ = some (.string key) := HA6.out.op.cell 1 rfl
        have c2 : w6.cell? ⟨w.heap.size, 2, none⟩ = some (.string tx) := HA6.out.op.cell 2 rfl
        have c3 : w6.cell? ⟨w.heap.size, 3, none⟩ = some (.int .u64 (v : Nat)) := HA6.out.op.cell 3 rfl
        have c4 : w6.cell? ⟨w.heap.size, 4, none⟩ = some (.int .i64 lim) := HA6.out.op.cell 4 rfl
        have d1 : w6.cell? ⟨g, 1, none⟩ = some (.bool false) := HA6.out.pa.cell 1 rfl
        have d2 : w6.cell? ⟨g, 2, none⟩ = some (.bool true) := HA6.out.pa.cell 2 rfl
        have d3 : w6.cell? ⟨g, 3, none⟩ = some (.bool false) := HA6.out.pa.cell 3 rfl
        have d4 : w6.cell? ⟨g, 4, none⟩ = some (.bool false) := HA6.out.pa.cell 4 rfl
        go_wp2
        go_end0
        refine ⟨rfl, ?_, HA6.out.wr⟩
        have hfin := HA6.out.pen
        rw [HR.out]
        simpa only [opBytesU, txtL, if_true, if_false, Bool.false_eq_true, Int.toNat_natCast, List.append_assoc, List.append_nil, List.nil_append] using hfin
    | true =>
      cases bv with
      | false =>
        have hut := hutt (by have := (htx rfl).1; omega)
        clear hukk hutt
        obtain ⟨hts, hlm⟩ := htx rfl
        obtain ⟨m, rfl⟩ : ∃ m : Nat, lim = m := ⟨lim.toNat, by omega⟩
        have hum := Lib.uvarint_length64 (x := m) (by omega)
        have c0 : W4.cell? ⟨w.heap.size, 0, none⟩ = some (.int .i64 (n : Nat)) := HA4.out.op.cell 0 rfl
        have c1 : W4.cell? ⟨w.heap.size, 1, none⟩ = some (.string key) := HA4.out.op.cell 1 rfl
        have c2 : W4.cell? ⟨w.heap.size, 2, none⟩ = some (.string tx) := HA4.out.op.cell 2 rfl
        have c3 : W4.cell? ⟨w.heap.size, 3, none⟩ = some (.int .u64 (v : Nat)) := HA4.out.op.cell 3 rfl
        have c4 : W4.cell? ⟨w.heap.size, 4, none⟩ = some (.int .i64 (m : Nat)) := HA4.out.op.cell 4 rfl
        have d1 : W4.cell? ⟨g, 1, none⟩ = some (.bool false) := HA4.out.pa.cell 1 rfl
        have d2 : W4.cell? ⟨g, 2, none⟩ = some (.bool false) := HA4.out.pa.cell 2 rfl
        have d3 : W4.cell? ⟨g, 3, none⟩ = some (.bool true) := HA4.out.pa.cell 3 rfl
        have d4 : W4.cell? ⟨g, 4, none⟩ = some (.bool true) := HA4.out.pa.cell 4 rfl
        go_wp2_with fail
        refine (num_one B pb n l _ (by omega) (by (try simp only [List.length_append]); (try simp only [size_list]); omega) HA4.out.pen hBs4 _ rfl).mono ?_
        rintro e w5 ⟨rfl, hd5⟩
        have HA5 := Lib.hid (HA4.out.step hd5)
        have hBs5 : B ≤ w5.heap.size := Nat.le_trans hBs4 hd5.2.size
        clear hd5
        clear c0 c1 c2 c3 c4 d1 d2 d3 d4
        have c0 : w5.cell? ⟨w.heap.size, 0, none⟩ = some (.int .i64 (n : Nat)) := HA5.out.op.cell 0 rfl
        have c1 : w5.cell? ⟨w.heap.size, 1, none⟩ = some (.string key) := HA5.out.op.cell 1 rfl
        have c2 : w5.cell? ⟨w.heap.size, 2, none⟩ = some (.string tx) := HA5.out.op.cell 2 rfl
        have c3 : w5.cell? ⟨w.heap.size, 3, none⟩ = some (.int .u64 (v : Nat)) := HA5.out.op.cell 3 rfl
        have c4 : w5.cell? ⟨w.heap.size, 4, none⟩ = some (.int .i64 (m : Nat)) := HA5.out.op.cell 4 rfl
        have d1 : w5.cell? ⟨g, 1, none⟩ = some (.bool false) := HA5.out.pa.cell 1 rfl
        have d2 : w5.cell? ⟨g, 2, none⟩ = some (.bool false) := HA5.out.pa.cell 2 rfl
        have d3 : w5.cell? ⟨g, 3, none⟩ = some (.bool true) := HA5.out.pa.cell 3 rfl
        have d4 : w5.cell? ⟨g, 4, none⟩ = some (.bool true) := HA5.out.pa.cell 4 rfl
        go_wp2_with fail
        refine (penText_any B pb tx (l ++ Lib.uvarint n) _ (by omega) (by (try simp only [List.length_append]); (try simp only [size_list]); omega) HA5.out.pen hBs5).mono ?_
        rintro e w6 ⟨rfl, hd6⟩
        have HA6 := Lib.hid (HA5.out.step hd6)
        have hBs6 : B ≤ w6.heap.size := Nat.le_trans hBs5 hd6.2.size
        clear hd6
        clear c0 c1 c2 c3 c4 d1 d2 d3 d4
        have c0 : w6.cell? ⟨w.heap.size, 0, none⟩ = some (.int .i64 (n : Nat)) := HA6.out.op.cell 0 rfl
        have c1 : w6.cell? ⟨w.heap.size, 1, none⟩ = some (.string key) := HA6.out.op.cell 1 rfl
        have c2 : w6.cell? ⟨w.heap.size, 2, none⟩ = some (.string tx) := HA6.out.op.cell 2 rfl
        have c3 : w6.cell? ⟨w.heap.size, 3, none⟩ = some (.int .u64 (v : Nat)) := HA6.out.op.cell 3 rfl
        have c4 : w6.cell? ⟨w.heap.size, 4, none⟩ = some (.int .i64 (m : Nat)) := HA6.out.op.cell 4 rfl
        have d1 : w6.cell? ⟨g, 1, none⟩ = some (.bool false) := HA6.out.pa.cell 1 rfl
        have d2 : w6.cell? ⟨g, 2, none⟩ = some (.bool false) := HA6.out.pa.cell 2 rfl
        have d3 : w6.cell? ⟨g, 3, none⟩ = some (.bool true) := HA6.out.pa.cell 3 rfl
        have d4 : w6.cell? ⟨g, 4, none⟩ = some (.bool true) := HA6.out.pa.cell 4 rfl
        go_wp2_with fail
        refine (num_one B pb m ((l ++ Lib.uvarint n) ++ (Lib.uvarint tx.size ++ tx.data.toList)) _ (by omega) (by (try simp only [List.length_append]); (try simp only [size_list]); omega) HA6.out.pen hBs6 _ rfl).mono ?_
        rintro e w7 ⟨rfl, hd7⟩
        have HA7 := Lib.hid (HA6.out.step hd7)
        have hBs7 : B ≤ w7.heap.size := Nat.le_trans hBs6 hd7.2.size
        clear hd7
        clear c0 c1 c2 c3 c4 d1 d2 d3 d4
        have c0 : w7.cell? ⟨w.heap.size, 0, none⟩ = some (.int .i64 (n : Nat)) := HA7.out.op.cell 0 rfl
        have c1 : w7.cell? ⟨w.heap.size, 1, none⟩ = some (.string key) := HA7.out.op.cell 1 rfl
        have c2 : w7.cell? ⟨w.heap.size, 2, none⟩ = some (.string tx) := HA7.out.op.cell 2 rfl
        have c3 : w7.cell? ⟨w.heap.size, 3, none⟩ = some (.int .u64 (v : Nat)) := HA7.out.op.cell 3 rfl
        have c4 : w7.cell? ⟨w.heap.size, 4, none⟩ = some (.int .i64 (m : Nat)) := HA7.out.op.cell 4 rfl
        have d1 : w7.cell? ⟨g, 1, none⟩ = some (.bool false) := HA7.out.pa.cell 1 rfl
        have d2 : w7.cell? ⟨g, 2, none⟩ = some (.bool false) := HA7.out.pa.cell 2 rfl
        have d3 : w7.cell? ⟨g, 3, none⟩ = some (.bool true) := HA7.out.pa.cell 3 rfl
        have d4 : w7.cell? ⟨g, 4, none⟩ = some (.bool true) := HA7.out.pa.cell 4 rfl
        go_wp2
        go_end0
        refine ⟨rfl, ?_, HA7.out.wr⟩
        have hfin := HA7.out.pen
        rw [HR.out]
        simpa only [opBytesU, txtL, if_true, if_false, Bool.false_eq_true, Int.toNat_natCast, List.append_assoc, List.append_nil, List.nil_append] using hfin
      | true =>
        have hut := hutt (by have := (htx rfl).1; omega)
        clear hukk hutt
        obtain ⟨hts, hlm⟩ := htx rfl
        obtain ⟨m, rfl⟩ : ∃ m : Nat, lim = m := ⟨lim.toNat, by omega⟩
        have hum := Lib.uvarint_length64 (x := m) (by omega)
        have c0 : W4.cell? ⟨w.heap.size, 0, none⟩ = some (.int .i64 (n : Nat)) := HA4.out.op.cell 0 rfl
        have c1 : W4.cell? ⟨w.heap.size, 1, none⟩ = some (.string key) := HA4.out.op.cell 1 rfl
        have c2 : W4.cell? ⟨w.heap.size, 2, none⟩ = some (.string tx) := HA4.out.op.cell 2 rfl
        have c3 : W4.cell? ⟨w.heap.size, 3, none⟩ = some (.int .u64 (v : Nat)) := HA4.out.op.cell 3 rfl
        have c4 : W4.cell? ⟨w.heap.size, 4, none⟩ = some (.int .i64 (m : Nat)) := HA4.out.op.cell 4 rfl
        have d1 : W4.cell? ⟨g, 1, none⟩ = some (.bool false) := HA4.out.pa.cell 1 rfl
        have d2 : W4.cell? ⟨g, 2, none⟩ = some (.bool true) := HA4.out.pa.cell 2 rfl
        have d3 : W4.cell? ⟨g, 3, none⟩ = some (.bool true) := HA4.out.pa.cell 3 rfl
        have d4 : W4.cell? ⟨g, 4, none⟩ = some (.bool true) := HA4.out.pa.cell 4 rfl
        go_wp2_with fail
        refine (num_one B pb n l _ (by omega) (by (try simp only [List.length_append]); (try simp only [size_list]); omega) HA4.out.pen hBs4 _ rfl).mono ?_
        rintro e w5 ⟨rfl, hd5⟩
        have HA5 := Lib.hid (HA4.out.step hd5)
        have hBs5 : B ≤ w5.heap.size := Nat.le_trans hBs4 hd5.2.size
        clear hd5
        clear c0 c1 c2 c3 c4 d1 d2 d3 d4
        have c0 : w5.cell? ⟨w.heap.size, 0, none⟩ = some (.int .i64 (n : Nat)) := HA5.out.op.cell 0 rfl
        have c1 : w5.cell? ⟨w.heap.size, 1, none⟩ = some (.string key) := HA5.out.op.cell 1 rfl
        have c2 : w5.cell? ⟨w.heap.size, 2, none⟩ = some (.string tx) := HA5.out.op.cell 2 rfl
        have c3 : w5.cell? ⟨w.heap.size, 3, none⟩ = some (.int .u64 (v : Nat)) := HA5.out.op.cell 3 rfl
        have c4 : w5.cell? ⟨w.heap.size, 4, none⟩ = some (.int .i64 (m : Nat)) := HA5.out.op.cell 4 rfl
        have d1 : w5.cell? ⟨g, 1, none⟩ = some (.bool false) := HA5.out.pa.cell 1 rfl
        have d2 : w5.cell? ⟨g, 2, none⟩ = some (.bool true) := HA5.out.pa.cell 2 rfl
        have d3 : w5.cell? ⟨g, 3, none⟩ = some (.bool true) := HA5.out.pa.cell 3 rfl
        have d4 : w5.cell? ⟨g, 4, none⟩ = some (.bool true) := HA5.out.pa.cell 4 rfl
        go_wp2_with fail
        refine (penText_any B pb tx (l ++ Lib.uvarint n) _ (by omega) (by (try simp only [List.length_append]); (try simp only [size_list]); omega) HA5.out.pen hBs5).mono ?_
        rintro e w6 ⟨rfl, hd6⟩
        have HA6 := Lib.hid (HA5.out.step hd6)
        have hBs6 : B ≤ w6.heap.size := Nat.le_trans hBs5 hd6.2.size
        clear hd6
        clear c0 c1 c2 c3 c4 d1 d2 d3 d4
        have c0 : w6.cell? ⟨w.heap.size, 0, none⟩ = some (.int .i64 (n : Nat)) := HA6.out.op.cell 0 rfl
        have c1 : w6.cell? ⟨w.heap.size, 1, none⟩ = some (.string key) := HA6.out.op.cell 1 rfl
        have c2 : w6.cell? ⟨w.heap.size, 2, none⟩ = some (.string tx) := HA6.out.op.cell 2 rfl
        have c3 : w6.cell? ⟨w.heap.size, 3, none⟩ = some (.int .u64 (v : Nat)) := HA6.out.op.cell 3 rfl
        have c4 : w6.cell? ⟨w.heap.size, 4, none⟩ = some (.int .i64 (m : Nat)) := HA6.out.op.cell 4 rfl
        have d1 : w6.cell? ⟨g, 1, none⟩ = some (.bool false) := HA6.out.pa.cell 1 rfl
        have d2 : w6.cell? ⟨g, 2, none⟩ = some (.bool true) := HA6.out.pa.cell 2 rfl
        have d3 : w6.cell? ⟨g, 3, none⟩ = some (.bool true) := HA6.out.pa.cell 3 rfl
        have d4 : w6.cell? ⟨g, 4, none⟩ = some (.bool true) := HA6.out.pa.cell 4 rfl
        go_wp2_with fail
        refine (num_one B pb v ((l ++ Lib.uvarint n) ++ (Lib.uvarint tx.size ++ tx.data.toList)) _ hv (by (try simp only [List.length_append]); (try simp only [size_list]); omega) HA6.out.pen hBs6 _ rfl).mono ?_
        rintro e w7 ⟨rfl, hd7⟩
        have HA7 := Lib.hid (HA6.out.step hd7)
        have hBs7 : B ≤ w7.heap.size := Nat.le_trans hBs6 hd7.2.size
        clear hd7
        clear c0 c1 c2 c3 c4 d1 d2 d3 d4
        have c0 : w7.cell? ⟨w.heap.size, 0, none⟩ = some (.int .i64 (n : Nat)) := HA7.out.op.cell 0 rfl
        have c1 : w7.cell? ⟨w.heap.size, 1, none⟩ = some (.string key) := HA7.out.op.cell 1 rfl
        have c2 : w7.cell? ⟨w.heap.size, 2, none⟩ = some (.string tx) := HA7.out.op.cell 2 rfl
        have c3 : w7.cell? ⟨w.heap.size, 3, none⟩ = some (.int .u64 (v : Nat)) := HA7.out.op.cell 3 rfl
        have c4 : w7.cell? ⟨w.heap.size, 4, none⟩ = some (.int .i64 (m : Nat)) := HA7.out.op.cell 4 rfl
        have d1 : w7.cell? ⟨g, 1, none⟩ = some (.bool false) := HA7.out.pa.cell 1 rfl
        have d2 : w7.cell? ⟨g, 2, none⟩ = some (.bool true) := HA7.out.pa.cell 2 rfl
        have d3 : w7.cell? ⟨g, 3, none⟩ = some (.bool true) := HA7.out.pa.cell 3 rfl
        have d4 : w7.cell? ⟨g, 4, none⟩ = some (.bool true) := HA7.out.pa.cell 4 rfl
        go_wp2_with fail
        refine (num_one B pb m (((l ++ Lib.uvarint n) ++ (Lib.uvarint tx.size ++ tx.data.toList)) ++ Lib.uvarint v) _ (by omega) (by (try simp only [List.length_append]); (try simp only [size_list]); omega) HA7.out.pen hBs7 _ rfl).mono ?_
        rintro e w8 ⟨rfl, hd8⟩
        have HA8 := Lib.hid (HA7.out.step hd8)
        have hBs8 : B ≤ w8.heap.size := Nat.le_trans hBs7 hd8.2.size
        clear hd8
        clear c0 c1 c2 c3 c4 d1 d2 d3 d4
        have c0 : w8.cell? ⟨w.heap.size, 0, none⟩ = some (.int .i64 (n : Nat)) := HA8.out.op.cell 0 rfl
        have c1 : w8.cell? ⟨w.heap.size, 1, none⟩ = some (.string key) := HA8.out.op.cell 1 rfl
        have c2 : w8.cell? ⟨w.heap.size, 2, none⟩ = some (.string tx) := HA8.out.op.cell 2 rfl
        have c3 : w8.cell? ⟨w.heap.size, 3, none⟩ = some (.int .u64 (v : Nat)) := HA8.out.op.cell 3 rfl
        have c4 : w8.cell? ⟨w.heap.size, 4, none⟩ = some (.int .i64 (m : Nat)) := HA8.out.op.cell 4 rfl
        have d1 : w8.cell? ⟨g, 1, none⟩ = some (.bool false) := HA8.out.pa.cell 1 rfl
        have d2 : w8.cell? ⟨g, 2, none⟩ = some (.bool true) := HA8.out.pa.cell 2 rfl
        have d3 : w8.cell? ⟨g, 3, none⟩ = some (.bool true) := HA8.out.pa.cell 3 rfl
        have d4 : w8.cell? ⟨g, 4, none⟩ = some (.bool true) := HA8.out.pa.cell 4 rfl
        go_wp2
        go_end0
        refine ⟨rfl, ?_, HA8.out.wr⟩
        have hfin := HA8.out.pen
        rw [HR.out]
        simpa only [opBytesU, txtL, if_true, if_false, Bool.false_eq_true, Int.toNat_natCast, List.append_assoc, List.append_nil, List.nil_append] using hfin
  | true =>
    cases bt with
    | false =>
      cases bv with
      | false =>
        have huk := hukk (by have := (hky rfl).2; omega)
        clear hukk hutt
        have hks := (hky rfl).2
        have c0 : W4.cell? ⟨w.heap.size, 0, none⟩ = some (.int .i64 (n : Nat)) := HA4.out.op.cell 0 rfl
        have c1 : W4.cell? ⟨w.heap.size, 1, none⟩ = some (.string key) := HA4.out.op.cell 1 rfl
        have c2 : W4.cell? ⟨w.heap.size, 2, none⟩ = some (.string tx) := HA4.out.op.cell 2 rfl
        have c3 : W4.cell? ⟨w.heap.size, 3, none⟩ = some (.int .u64 (v : Nat)) := HA4.out.op.cell 3 rfl
        have c4 : W4.cell? ⟨w.heap.size, 4, none⟩ = some (.int .i64 lim) := HA4.out.op.cell 4 rfl
        have d1 : W4.cell? ⟨g, 1, none⟩ = some (.bool true) := HA4.out.pa.cell 1 rfl
        have d2 : W4.cell? ⟨g, 2, none⟩ = some (.bool false) := HA4.out.pa.cell 2 rfl
        have d3 : W4.cell? ⟨g, 3, none⟩ = some (.bool false) := HA4.out.pa.cell 3 rfl
        have d4 : W4.cell? ⟨g, 4, none⟩ = some (.bool false) := HA4.out.pa.cell 4 rfl
        go_wp2_with fail
        refine (num_one B pb n l _ (by omega) (by (try simp only [List.length_append]); (try simp only [size_list]); omega) HA4.out.pen hBs4 _ rfl).mono ?_
        rintro e w5 ⟨rfl, hd5⟩
        have HA5 := Lib.hid (HA4.out.step hd5)
        have hBs5 : B ≤ w5.heap.size := Nat.le_trans hBs4 hd5.2.size
        clear hd5
        clear c0 c1 c2 c3 c4 d1 d2 d3 d4
        have c0 : w5.cell? ⟨w.heap.size, 0, none⟩ = some (.int .i64 (n : Nat)) := HA5.out.op.cell 0 rfl
        have c1 : w5.cell? ⟨w.heap.size, 1, none⟩ = some (.string key) := HA5.out.op.cell 1 rfl
        have c2 : w5.cell? ⟨w.heap.size, 2, none⟩ = some (.string tx) := HA5.out.op.cell 2 rfl
        have c3 : w5.cell? ⟨w.heap.size, 3, none⟩ = some (.int .u64 (v : Nat)) := HA5.out.op.cell 3 rfl
        have c4 : w5.cell? ⟨w.heap.size, 4, none⟩ = some (.int .i64 lim) := HA5.out.op.cell 4 rfl
        have d1 : w5.cell? ⟨g, 1, none⟩ = some (.bool true) := HA5.out.pa.cell 1 rfl
        have d2 : w5.cell? ⟨g, 2, none⟩ = some (.bool false) := HA5.out.pa.cell 2 rfl
        have d3 : w5.cell? ⟨g, 3, none⟩ = some (.bool false) := HA5.out.pa.cell 3 rfl
        have d4 : w5.cell? ⟨g, 4, none⟩ = some (.bool false) := HA5.out.pa.cell 4 rfl
        go_wp2_with fail
        refine (penText_any B pb key (l ++ Lib.uvarint n) _ (by omega) (by (try simp only [List.length_append]); (try simp only [size_list]); omega) HA5.out.pen hBs5).mono ?_
        rintro e w6 ⟨rfl, hd6⟩
        have HA6 := Lib.hid (HA5.out.step hd6)
        have hBs6 : B ≤ w6.heap.size := Nat.le_trans hBs5 hd6.2.size
        clear hd6
        clear c0 c1 c2 c3 c4 d1 d2 d3 d4
        have c0 : w6.cell? ⟨w.heap.size, 0, none⟩ = some (.int .i64 (n : Nat)) := HA6.out.op.cell 0 rfl
        have c1 : w6.cell? ⟨w.heap.size, 1, none⟩ = some (.string key) := HA6.out.op.cell 1 rfl
        have c2 : w6.cell? ⟨w.heap.size, 2, none⟩ = some (.string tx) := HA6.out.op.cell 2 rfl
        have c3 : w6.cell? ⟨w.heap.size, 3, none⟩ = some (.int .u64 (v : Nat)) := HA6.out.op.cell 3 rfl
        have c4 : w6.cell? ⟨w.heap.size, 4, none⟩ = some (.int .i64 lim) := HA6.out.op.cell 4 rfl
        have d1 : w6.cell? ⟨g, 1, none⟩ = some (.bool true) := HA6.out.pa.cell 1 rfl
        have d2 : w6.cell? ⟨g, 2, none⟩ = some (.bool false) := HA6.out.pa.cell 2 rfl
        have d3 : w6.cell? ⟨g, 3, none⟩ = some (.bool false) := HA6.out.pa.cell 3 rfl
        have d4 : w6.cell? ⟨g, 4, none⟩ = some (.bool false) := HA6.out.pa.cell 4 rfl
        go_wp2
        go_end0
        refine ⟨rfl, ?_, HA6.out.wr⟩
        have hfin := HA6.out.pen
        rw [HR.out]
        simpa only [opBytesU, txtL, if_true, if_false, Bool.false_eq_true, Int.toNat_natCast, List.append_assoc, List.append_nil, List.nil_append] using hfin
      | true =>
        have huk := hukk (by have := (hky rfl).2; omega)
        clear hukk hutt
        have hks := (hky rfl).2
        have c0 : W4.cell? ⟨w.heap.size, 0, none⟩ = some (.int .i64 (n : Nat)) := HA4.out.op.cell 0 rfl
        have c1 : W4.cell? ⟨w.heap.size, 1, none⟩ = some (.string key) := HA4.out.op.cell 1 rfl
        have c2 : W4.cell? ⟨w.heap.size, 2, none⟩ = some (.string tx) := HA4.out.op.cell 2 rfl
        have c3 : W4.cell? ⟨w.heap.size, 3, none⟩ = some (.int .u64 (v : Nat)) := HA4.out.op.cell 3 rfl
        have c4 : W4.cell? ⟨w.heap.size, 4, none⟩ = some (.int .i64 lim) := HA4.out.op.cell 4 rfl
        have d1 : W4.cell? ⟨g, 1, none⟩ = some (.bool true) := HA4.out.pa.cell 1 rfl
        have d2 : W4.cell? ⟨g, 2, none⟩ = some (.bool true) := HA4.out.pa.cell 2 rfl
        have d3 : W4.cell? ⟨g, 3, none⟩ = some (.bool false) := HA4.out.pa.cell 3 rfl
        have d4 : W4.cell? ⟨g, 4, none⟩ = some (.bool false) := HA4.out.pa.cell 4 rfl
        go_wp2_with fail
        refine (num_one B pb n l _ (by omega) (by (try simp only [List.length_append]); (try simp only [size_list]); omega) HA4.out.pen hBs4 _ rfl).mono ?_
        rintro e w5 ⟨rfl, hd5⟩
        have HA5 := Lib.hid (HA4.out.step hd5)
        have hBs5 : B ≤ w5.heap.size := Nat.le_trans hBs4 hd5.2.size
        clear hd5
        clear c0 c1 c2 c3 c4 d1 d2 d3 d4
        have c0 : w5.cell? ⟨w.heap.size, 0, none⟩ = some (.int .i64 (n : Nat)) := HA5.out.op.cell 0 rfl
        have c1 : w5.cell? ⟨w.heap.size, 1, none⟩ = some (.string key) := HA5.out.op.cell 1 rfl
        have c2 : w5.cell? ⟨w.heap.size, 2, none⟩ = some (.string tx) := HA5.out.op.cell 2 rfl
        have c3 : w5.cell? ⟨w.heap.size, 3, none⟩ = some (.int .u64 (v : Nat)) := HA5.out.op.cell 3 rfl
        have c4 : w5.cell? ⟨w.heap.size, 4, none⟩ = some (.int .i64 lim) := HA5.out.op.cell 4 rfl
        have d1 : w5.cell? ⟨g, 1, none⟩ = some (.bool true) := HA5.out.pa.cell 1 rfl
        have d2 : w5.cell? ⟨g, 2, none⟩ = some (.bool true) := HA5.out.pa.cell 2 rfl
        have d3 : w5.cell? ⟨g, 3, none⟩ = some (.bool false) := HA5.out.pa.cell 3 rfl
        have d4 : w5.cell? ⟨g, 4, none⟩ = some (.bool false) := HA5.out.pa.cell 4 rfl
        go_wp2_with fail
        refine (penText_any B pb key (l ++ Lib.uvarint n) _ (by omega) (by (try simp only [List.length_append]); (try simp only [size_list]); omega) HA5.out.pen hBs5).mono ?_
        rintro e w6 ⟨rfl, hd6⟩
        have HA6 := Lib.hid (HA5.out.step hd6)
        have hBs6 : B ≤ w6.heap.size := Nat.le_trans hBs5 hd6.2.size
        clear hd6
        clear c0 c1 c2 c3 c4 d1 d2 d3 d4
        have c0 : w6.cell? ⟨w.heap.size, 0, none⟩ = some (.int .i64 (n : Nat)) := HA6.out.op.cell 0 rfl
        have c1 : w6.cell? ⟨w.heap.size, 1, none⟩ = some (.string key) := HA6.out.op.cell 1 rfl
        have c2 : w6.cell? ⟨w.heap.size, 2, none⟩ = some (.string tx) := HA6.out.op.cell 2 rfl
        have c3 : w6.cell? ⟨w.heap.size, 3, none⟩ = some (.int .u64 (v : Nat)) := HA6.out.op.cell 3 rfl
        have c4 : w6.cell? ⟨w.heap.size, 4, none⟩ = some (.int .i64 lim) := HA6.out.op.cell 4 rfl
        have d1 : w6.cell? ⟨g, 1, none⟩ = some (.bool true) := HA6.out.pa.cell 1 rfl
        have d2 : w6.cell? ⟨g, 2, none⟩ = some (.bool true) := HA6.out.pa.cell 2 rfl
        have d3 : w6.cell? ⟨g, 3, none⟩ = some (.bool false) := HA6.out.pa.cell 3 rfl
        have d4 : w6.cell? ⟨g, 4, none⟩ = some (.bool false) := HA6.out.pa.cell 4 rfl
        go_wp2_with fail
        refine (num_one B pb v ((l ++ Lib.uvarint n) ++ (Lib.uvarint key.size ++ key.data.toList)) _ hv (by (try simp only [List.length_append]); (try simp only [size_list]); omega) HA6.out.pen hBs6 _ rfl).mono ?_
        rintro e w7 ⟨rfl, hd7⟩
        have HA7 := Lib.hid (HA6.out.step hd7)
        have hBs7 : B ≤ w7.heap.size := Nat.le_trans hBs6 hd7.2.size
        clear hd7
        clear c0 c1 c2 c3 c4 d1 d2 d3 d4
        have c0 : w7.cell? ⟨w.heap.size, 0, none⟩ = some (.int .i64 (n : Nat)) := HA7.out.op.cell 0 rfl
        have c1 : w7.cell? ⟨w.heap.size, 1, none⟩ = some (.string key) := HA7.out.op.cell 1 rfl
        have c2 : w7.cell? ⟨w.heap.size, 2, none⟩ = some (.string tx) := HA7.out.op.cell 2 rfl
        have c3 : w7.cell? ⟨w.heap.size, 3, none⟩ = some (.int .u64 (v : Nat)) := HA7.out.op.cell 3 rfl
        have c4 : w7.cell? ⟨w.heap.size, 4, none⟩ = some (.int .i64 lim) := HA7.out.op.cell 4 rfl
        have d1 : w7.cell? ⟨g, 1, none⟩ = some (.bool true) := HA7.out.pa.cell 1 rfl
        have d2 : w7.cell? ⟨g, 2, none⟩ = some (.bool true) := HA7.out.pa.cell 2 rfl
        have d3 : w7.cell? ⟨g, 3, none⟩ = some (.bool false) := HA7.out.pa.cell 3 rfl
        have d4 : w7.cell? ⟨g, 4, none⟩ = some (.bool false) := HA7.out.pa.cell 4 rfl
        go_wp2
        go_end0
        refine ⟨rfl, ?_, HA7.out.wr⟩
        have hfin := HA7.out.pen
        rw [HR.out]
        simpa only [opBytesU, txtL, if_true, if_false, Bool.false_eq_true, Int.toNat_natCast, List.append_assoc, List.append_nil, List.nil_append] using hfin
    | true =>
      cases bv with
      | false =>
        have huk := hukk (by have := (hky rfl).2; omega)
        have hut := hutt (by have := (htx rfl).1; omega)
        clear hukk hutt
        have hks := (hky rfl).2
        obtain ⟨hts, hlm⟩ := htx rfl
        obtain ⟨m, rfl⟩ : ∃ m : Nat, lim = m := ⟨lim.toNat, by omega⟩
        have hum := Lib.uvarint_length64 (x := m) (by omega)
        have c0 : W4.cell? ⟨w.heap.size, 0, none⟩ = some (.int .i64 (n : Nat)) := HA4.out.op.cell 0 rfl
        have c1 : W4.cell? ⟨w.heap.size, 1, none⟩ = some (.string key) := HA4.out.op.cell 1 rfl
        have c2 : W4.cell? ⟨w.heap.size, 2, none⟩ = some (.string tx) := HA4.out.op.cell 2 rfl
        have c3 : W4.cell? ⟨w.heap.size, 3, none⟩ = some (.int .u64 (v : Nat)) := HA4.out.op.cell 3 rfl
        have c4 : W4.cell? ⟨w.heap.size, 4, none⟩ = some (.int .i64 (m : Nat)) := HA4.out.op.cell 4 rfl
        have d1 : W4.cell? ⟨g, 1, none⟩ = some (.bool true) := HA4.out.pa.cell 1 rfl
        have d2 : W4.cell? ⟨g, 2, none⟩ = some (.bool false) := HA4.out.pa.cell 2 rfl
        have d3 : W4.cell? ⟨g, 3, none⟩ = some (.bool true) := HA4.out.pa.cell 3 rfl
        have d4 : W4.cell? ⟨g, 4, none⟩ = some (.bool true) := HA4.out.pa.cell 4 rfl
        go_wp2_with fail
        refine (num_one B pb n l _ (by omega) (by (try simp only [List.length_append]); (try simp only [size_list]); omega) HA4.out.pen hBs4 _ rfl).mono ?_
        rintro e w5 ⟨rfl, hd5⟩
        have HA5 := Lib.hid (HA4.out.step hd5)
        have hBs5 : B ≤ w5.heap.size := Nat.le_trans hBs4 hd5.2.size
        clear hd5
        clear c0 c1 c2 c3 c4 d1 d2 d3 d4
        have c0 : w5.cell? ⟨w.heap.size, 0, none⟩ = some (.int .i64 (n : Nat)) := HA5.out.op.cell 0 rfl
        have c1 : w5.cell? ⟨w.heap.size, 1, none⟩ = some (.string key) := HA5.out.op.cell 1 rfl
        have c2 : w5.cell? ⟨w.heap.size, 2, none⟩ = some (.string tx) := HA5.out.op.cell 2 rfl
        have c3 : w5.cell? ⟨w.heap.size, 3, none⟩ = some (.int .u64 (v : Nat)) := HA5.out.op.cell 3 rfl
        have c4 : w5.cell? ⟨w.heap.size, 4, none⟩ = some (.int .i64 (m : Nat)) := HA5.out.op.cell 4 rfl
        have d1 : w5.cell? ⟨g, 1, none⟩ = some (.bool true) := HA5.out.pa.cell 1 rfl
        have d2 : w5.cell? ⟨g, 2, none⟩ = some (.bool false) := HA5.out.pa.cell 2 rfl
        have d3 : w5.cell? ⟨g, 3, none⟩ = some (.bool true) := HA5.out.pa.cell 3 rfl
        have d4 : w5.cell? ⟨g, 4, none⟩ = some (.bool true) := HA5.out.pa.cell 4 rfl
        go_wp2_with fail
        refine (penText_any B pb key (l ++ Lib.uvarint n) _ (by omega) (by (try simp only [List.length_append]); (try simp only [size_list]); omega) HA5.out.pen hBs5).mono ?_
        rintro e w6 ⟨rfl, hd6⟩
        have HA6 := Lib.hid (HA5.out.step hd6)
        have hBs6 : B ≤ w6.heap.size := Nat.le_trans hBs5 hd6.2.size
        clear hd6
        clear c0 c1 c2 c3 c4 d1 d2 d3 d4
        have c0 : w6.cell? ⟨w.heap.size, 0, none⟩ = some (.int .i64 (n : Nat)) := HA6.out.op.cell 0 rfl
        have c1 : w6.cell? ⟨w.heap.size, 1, none⟩ = some (.string key) := HA6.out.op.cell 1 rfl
        have c2 : w6.cell? ⟨w.heap.size, 2, none⟩ = some (.string tx) := HA6.out.op.cell 2 rfl
        have c3 : w6.cell? ⟨w.heap.size, 3, none⟩ = some (.int .u64 (v : Nat)) := HA6.out.op.cell 3 rfl
        have c4 : w6.cell? ⟨w.heap.size, 4, none⟩ = some (.int .i64 (m : Nat)) := HA6.out.op.cell 4 rfl
        have d1 : w6.cell? ⟨g, 1, none⟩ = some (.bool true) := HA6.out.pa.cell 1 rfl
        have d2 : w6.cell? ⟨g, 2, none⟩ = some (.bool false) := HA6.out.pa.cell 2 rfl
        have d3 : w6.cell? ⟨g, 3, none⟩ = some (.bool true) := HA6.out.pa.cell 3 rfl
        have d4 : w6.cell? ⟨g, 4, none⟩ = some (.bool true) := HA6.out.pa.cell 4 rfl
        go_wp2_with fail
        refine (penText_any B pb tx ((l ++ Lib.uvarint n) ++ (Lib.uvarint key.size ++ key.data.toList)) _ (by omega) (by (try simp only [List.length_append]); (try simp only [size_list]); omega) HA6.out.pen hBs6).mono ?_
        rintro e w7 ⟨rfl, hd7⟩
        have HA7 := Lib.hid (HA6.out.step hd7)
        have hBs7 : B ≤ w7.heap.size := Nat.le_trans hBs6 hd7.2.size
        clear hd7
        clear c0 c1 c2 c3 c4 d1 d2 d3 d4
        have c0 : w7.cell? ⟨w.heap.size, 0, none⟩ = some (.int .i64 (n : Nat)) := HA7.out.op.cell 0 rfl
        have c1 : w7.cell? ⟨w.heap.size, 1, none⟩ = some (.string key) := HA7.out.op.cell 1 rfl
        have c2 : w7.cell? ⟨w.heap.size, 2, none⟩ = some (.string tx) := HA7.out.op.cell 2 rfl
        have c3 : w7.cell? ⟨w.heap.size, 3, none⟩ = some (.int .u64 (v : Nat)) := HA7.out.op.cell 3 rfl
        have c4 : w7.cell? ⟨w.heap.size, 4, none⟩ = some (.int .i64 (m : Nat)) := HA7.out.op.cell 4 rfl
        have d1 : w7.cell? ⟨g, 1, none⟩ = some (.bool true) := HA7.out.pa.cell 1 rfl
        have d2 : w7.cell? ⟨g, 2, none⟩ = some (.bool false) := HA7.out.pa.cell 2 rfl
        have d3 : w7.cell? ⟨g, 3, none⟩ = some (.bool true) := HA7.out.pa.cell 3 rfl
        have d4 : w7.cell? ⟨g, 4, none⟩ = some (.bool true) := HA7.out.pa.cell 4 rfl
        go_wp2_with fail
        refine (num_one B pb m (((l ++ Lib.uvarint n) ++ (Lib.uvarint key.size ++ key.data.toList)) ++ (Lib.uvarint tx.size ++ tx.data.toList)) _ (by omega) (by (try simp only [List.length_append]); (try simp only [size_list]); omega) HA7.out.pen hBs7 _ rfl).mono ?_
        rintro e w8 ⟨rfl, hd8⟩
        have HA8 := Lib.hid (HA7.out.step hd8)
        have hBs8 : B ≤ w8.heap.size := Nat.le_trans hBs7 hd8.2.size
        clear hd8
        clear c0 c1 c2 c3 c4 d1 d2 d3 d4
        have c0 : w8.cell? ⟨w.heap.size, 0, none⟩ = some (.int .i64 (n : Nat)) := HA8.out.op.cell 0 rfl
        have c1 : w8.cell? ⟨w.heap.size, 1, none⟩ = some (.string key) := HA8.out.op.cell 1 rfl
        have c2 : w8.cell? ⟨w.heap.size, 2, none⟩ = some (.string tx) := HA8.out.op.cell 2 rfl
        have c3 : w8.cell? ⟨w.heap.size, 3, none⟩ = some (.int .u64 (v : Nat)) := HA8.out.op.cell 3 rfl
        have c4 : w8.cell? ⟨w.heap.size, 4, none⟩ = some (.int .i64 (m : Nat)) := HA8.out.op.cell 4 rfl
        have d1 : w8.cell? ⟨g, 1, none⟩ = some (.bool true) := HA8.out.pa.cell 1 rfl
        have d2 : w8.cell? ⟨g, 2, none⟩ = some (.bool false) := HA8.out.pa.cell 2 rfl
        have d3 : w8.cell? ⟨g, 3, none⟩ = some (.bool true) := HA8.out.pa.cell 3 rfl
        have d4 : w8.cell? ⟨g, 4, none⟩ = some (.bool true) := HA8.out.pa.cell 4 rfl
        go_wp2
        go_end0
        refine ⟨rfl, ?_, HA8.out.wr⟩
        have hfin := HA8.out.pen
        rw [HR.out]
        simpa only [opBytesU, txtL, if_true, if_false, Bool.false_eq_true, Int.toNat_natCast, List.append_assoc, List.append_nil, List.nil_append] using hfin
      | true =>
        have huk := hukk (by have := (hky rfl).2; omega)
        have hut := hutt (by have := (htx rfl).1; omega)
        clear hukk hutt
        have hks := (hky rfl).2
        obtain ⟨hts, hlm⟩ := htx rfl
        obtain ⟨m, rfl⟩ : ∃ m : Nat, lim = m := ⟨lim.toNat, by omega⟩
        have hum := Lib.uvarint_length64 (x := m) (by omega)
        have c0 : W4.cell? ⟨w.heap.size, 0, none⟩ = some (.int .i64 (n : Nat)) := HA4.out.op.cell 0 rfl
        have c1 : W4.cell? ⟨w.heap.size, 1, none⟩ = some (.string key) := HA4.out.op.cell 1 rfl
        have c2 : W4.cell? ⟨w.heap.size, 2, none⟩ = some (.string tx) := HA4.out.op.cell 2 rfl
        have c3 : W4.cell? ⟨w.heap.size, 3, none⟩ = some (.int .u64 (v : Nat)) := HA4.out.op.cell 3 rfl
        have c4 : W4.cell? ⟨w.heap.size, 4, none⟩ = some (.int .i64 (m : Nat)) := HA4.out.op.cell 4 rfl
        have d1 : W4.cell? ⟨g, 1, none⟩ = some (.bool true) := HA4.out.pa.cell 1 rfl
        have d2 : W4.cell? ⟨g, 2, none⟩ = some (.bool true) := HA4.out.pa.cell 2 rfl
        have d3 : W4.cell? ⟨g, 3, none⟩ = some (.bool true) := HA4.out.pa.cell 3 rfl
        have d4 : W4.cell? ⟨g, 4, none⟩ = some (.bool true) := HA4.out.pa.cell 4 rfl
        go_wp2_with fail
        refine (num_one B pb n l _ (by omega) (by (try simp only [List.length_append]); (try simp only [size_list]); omega) HA4.out.pen hBs4 _ rfl).mono ?_
        rintro e w5 ⟨rfl, hd5⟩
        have HA5 := Lib.hid (HA4.out.step hd5)
        have hBs5 : B ≤ w5.heap.size := Nat.le_trans hBs4 hd5.2.size
        clear hd5
        clear c0 c1 c2 c3 c4 d1 d2 d3 d4
        have c0 : w5.cell? ⟨w.heap.size, 0, none⟩ = some (.int .i64 (n : Nat)) := HA5.out.op.cell 0 rfl
        have c1 : w5.cell? ⟨w.heap.size, 1, none⟩ = some (.string key) := HA5.out.op.cell 1 rfl
        have c2 : w5.cell? ⟨w.heap.size, 2, none⟩ = some (.string tx) := HA5.out.op.cell 2 rfl
        have c3 : w5.cell? ⟨w.heap.size, 3, none⟩ = some (.int .u64 (v : Nat)) := HA5.out.op.cell 3 rfl
        have c4 : w5.cell? ⟨w.heap.size, 4, none⟩ = some (.int .i64 (m : Nat)) := HA5.out.op.cell 4 rfl
        have d1 : w5.cell? ⟨g, 1, none⟩ = some (.bool true) := HA5.out.pa.cell 1 rfl
        have d2 : w5.cell? ⟨g, 2, none⟩ = some (.bool true) := HA5.out.pa.cell 2 rfl
        have d3 : w5.cell? ⟨g, 3, none⟩ = some (.bool true) := HA5.out.pa.cell 3 rfl
        have d4 : w5.cell? ⟨g, 4, none⟩ = some (.bool true) := HA5.out.pa.cell 4 rfl
        go_wp2_with fail
        refine (penText_any B pb key (l ++ Lib.uvarint n) _ (by omega) (by (try simp only [List.length_append]); (try simp only [size_list]); omega) HA5.out.pen hBs5).mono ?_
        rintro e w6 ⟨rfl, hd6⟩
        have HA6 := Lib.hid (HA5.out.step hd6)
        have hBs6 : B ≤ w6.heap.size := Nat.le_trans hBs5 hd6.2.size
        clear hd6
        clear c0 c1 c2 c3 c4 d1 d2 d3 d4
        have c0 : w6.cell? ⟨w.heap.size, 0, none⟩ = some (.int .i64 (n : Nat)) := HA6.out.op.cell 0 rfl
        have c1 : w6.cell? ⟨w.heap.size, 1, none⟩ = some (.string key) := HA6.out.op.cell 1 rfl
        have c2 : w6.cell? ⟨w.heap.size, 2, none⟩ = some (.string tx) := HA6.out.op.cell 2 rfl
        have c3 : w6.cell? ⟨w.heap.size, 3, none⟩ = some (.int .u64 (v : Nat)) := HA6.out.op.cell 3 rfl
        have c4 : w6.cell? ⟨w.heap.size, 4, none⟩ = some (.int .i64 (m : Nat)) := HA6.out.op.cell 4 rfl
        have d1 : w6.cell? ⟨g, 1, none⟩ = some (.bool true) := HA6.out.pa.cell 1 rfl
        have d2 : w6.cell? ⟨g, 2, none⟩ = some (.bool true) := HA6.out.pa.cell 2 rfl
        have d3 : w6.cell? ⟨g, 3, none⟩ = some (.bool true) := HA6.out.pa.cell 3 rfl
        have d4 : w6.cell? ⟨g, 4, none⟩ = some (.bool true) := HA6.out.pa.cell 4 rfl
        go_wp2_with fail
        refine (penText_any B pb tx ((l ++ Lib.uvarint n) ++ (Lib.uvarint key.size ++ key.data.toList)) _ (by omega) (by (try simp only [List.length_append]); (try simp only [size_list]); omega) HA6.out.pen hBs6).mono ?_
        rintro e w7 ⟨rfl, hd7⟩
        have HA7 := Lib.hid (HA6.out.step hd7)
        have hBs7 : B ≤ w7.heap.size := Nat.le_trans hBs6 hd7.2.size
        clear hd7
        clear c0 c1 c2 c3 c4 d1 d2 d3 d4
        have c0 : w7.cell? ⟨w.heap.size, 0, none⟩ = some (.int .i64 (n : Nat)) := HA7.out.op.cell 0 rfl
        have c1 : w7.cell? ⟨w.heap.size, 1, none⟩ = some (.string key) := HA7.out.op.cell 1 rfl
        have c2 : w7.cell? ⟨w.heap.size, 2, none⟩ = some (.string tx) := HA7.out.op.cell 2 rfl
        have c3 : w7.cell? ⟨w.heap.size, 3, none⟩ = some (.int .u64 (v : Nat)) := HA7.out.op.cell 3 rfl
        have c4 : w7.cell? ⟨w.heap.size, 4, none⟩ = some (.int .i64 (m : Nat)) := HA7.out.op.cell 4 rfl
        have d1 : w7.cell? ⟨g, 1, none⟩ = some (.bool true) := HA7.out.pa.cell 1 rfl
        have d2 : w7.cell? ⟨g, 2, none⟩ = some (.bool true) := HA7.out.pa.cell 2 rfl
        have d3 : w7.cell? ⟨g, 3, none⟩ = some (.bool true) := HA7.out.pa.cell 3 rfl
        have d4 : w7.cell? ⟨g, 4, none⟩ = some (.bool true) := HA7.out.pa.cell 4 rfl
        go_wp2_with fail
        refine (num_one B pb v (((l ++ Lib.uvarint n) ++ (Lib.uvarint key.size ++ key.data.toList)) ++ (Lib.uvarint tx.size ++ tx.data.toList)) _ hv (by (try simp only [List.length_append]); (try simp only [size_list]); omega) HA7.out.pen hBs7 _ rfl).mono ?_
        rintro e w8 ⟨rfl, hd8⟩
        have HA8 := Lib.hid (HA7.out.step hd8)
        have hBs8 : B ≤ w8.heap.size := Nat.le_trans hBs7 hd8.2.size
        clear hd8
        clear c0 c1 c2 c3 c4 d1 d2 d3 d4
        have c0 : w8.cell? ⟨w.heap.size, 0, none⟩ = some (.int .i64 (n : Nat)) := HA8.out.op.cell 0 rfl
        have c1 : w8.cell? ⟨w.heap.size, 1, none⟩ = some (.string key) := HA8.out.op.cell 1 rfl
        have c2 : w8.cell? ⟨w.heap.size, 2, none⟩ = some (.string tx) := HA8.out.op.cell 2 rfl
        have c3 : w8.cell? ⟨w.heap.size, 3, none⟩ = some (.int .u64 (v : Nat)) := HA8.out.op.cell 3 rfl
        have c4 : w8.cell? ⟨w.heap.size, 4, none⟩ = some (.int .i64 (m : Nat)) := HA8.out.op.cell 4 rfl
        have d1 : w8.cell? ⟨g, 1, none⟩ = some (.bool true) := HA8.out.pa.cell 1 rfl
        have d2 : w8.cell? ⟨g, 2, none⟩ = some (.bool true) := HA8.out.pa.cell 2 rfl
        have d3 : w8.cell? ⟨g, 3, none⟩ = some (.bool true) := HA8.out.pa.cell 3 rfl
        have d4 : w8.cell? ⟨g, 4, none⟩ = some (.bool true) := HA8.out.pa.cell 4 rfl
        go_wp2_with fail
        refine (num_one B pb m ((((l ++ Lib.uvarint n) ++ (Lib.uvarint key.size ++ key.data.toList)) ++ (Lib.uvarint tx.size ++ tx.data.toList)) ++ Lib.uvarint v) _ (by omega) (by (try simp only [List.length_append]); (try simp only [size_list]); omega) HA8.out.pen hBs8 _ rfl).mono ?_
        rintro e w9 ⟨rfl, hd9⟩
        have HA9 := Lib.hid (HA8.out.step hd9)
        have hBs9 : B ≤ w9.heap.size := Nat.le_trans hBs8 hd9.2.size
        clear hd9
        clear c0 c1 c2 c3 c4 d1 d2 d3 d4
        have c0 : w9.cell? ⟨w.heap.size, 0, none⟩ = some (.int .i64 (n : Nat)) := HA9.out.op.cell 0 rfl
        have c1 : w9.cell? ⟨w.heap.size, 1, none⟩ = some (.string key) := HA9.out.op.cell 1 rfl
        have c2 : w9.cell? ⟨w.heap.size, 2, none⟩ = some (.string tx) := HA9.out.op.cell 2 rfl
        have c3 : w9.cell? ⟨w.heap.size, 3, none⟩ = some (.int .u64 (v : Nat)) := HA9.out.op.cell 3 rfl
        have c4 : w9.cell? ⟨w.heap.size, 4, none⟩ = some (.int .i64 (m : Nat)) := HA9.out.op.cell 4 rfl
        have d1 : w9.cell? ⟨g, 1, none⟩ = some (.bool true) := HA9.out.pa.cell 1 rfl
        have d2 : w9.cell? ⟨g, 2, none⟩ = some (.bool true) := HA9.out.pa.cell 2 rfl
        have d3 : w9.cell? ⟨g, 3, none⟩ = some (.bool true) := HA9.out.pa.cell 3 rfl
        have d4 : w9.cell? ⟨g, 4, none⟩ = some (.bool true) := HA9.out.pa.cell 4 rfl
        go_wp2
        go_end0
        refine ⟨rfl, ?_, HA9.out.wr⟩
        have hfin := HA9.out.pen
        rw [HR.out]
        simpa only [opBytesU, txtL, if_true, if_false, Bool.false_eq_true, Int.toNat_natCast, List.append_assoc, List.append_nil, List.nil_append] using hfin
end Go.Proofs.YtmkglaghnjnooaaDoor
