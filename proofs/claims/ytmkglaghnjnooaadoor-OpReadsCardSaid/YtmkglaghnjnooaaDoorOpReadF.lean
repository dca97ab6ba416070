/- op.Read: an operation is read, or a fault is told. Condition: what has a fault has no bytes. -/
import Derived.Test.YtmkglaghnjnooaaDoorOpParse
namespace Go.Proofs.YtmkglaghnjnooaaDoor
open Go.RowKit

def opZ : OpV := ⟨0, ⟨#[]⟩, ⟨#[]⟩, 0, 0⟩
def OpV.sound (x : OpV) : Bool := opSoundB x.k x.key x.tx x.lim
/-- Behind what was read: a fault, if it is not sound. -/
def judged (x : OpV) (s : ES) : ES := if x.sound = true then s else ([], if s.2 = 0 then 10 else s.2)
/-- What Read tells, and what is left. -/
def readF (s : ES) : (OpV × Bool) × ES :=
  if (judged (parseF s).1 (parseF s).2).2 = 0 then (((parseF s).1, true), judged (parseF s).1 (parseF s).2) else ((opZ, false), judged (parseF s).1 (parseF s).2)

theorem parseU_fit (bk bt bv : Bool) (n : Nat) (s : ES) : (parseU bk bt bv n s).1.key.size ≤ 64 ∧ (parseU bk bt bv n s).1.tx.size ≤ 64 ∧ (parseU bk bt bv n s).1.v ≤ 18446744073709551615 := by
  unfold parseU
  refine ⟨?_, ?_, ?_⟩
  · simp only
    split
    · exact eT_size _ _
    · exact Nat.zero_le _
  · simp only
    split
    · exact eT_size _ _
    · exact Nat.zero_le _
  · simp only
    split
    · exact eN_le _ _
    · exact Nat.zero_le _
theorem parseF_fit (s : ES) : (parseF s).1.key.size ≤ 64 ∧ (parseF s).1.tx.size ≤ 64 ∧ (parseF s).1.v ≤ 18446744073709551615 := parseU_fit _ _ _ _ _

/-- While it is judged: the result's box, the operation's. -/
structure RAt (w W : World) (eb A2 A4 : Nat) (s : ES) (cs : Array Value) : Prop where
  eye : EyeS W eb s
  res : BX W A2 24 #[.int .i64 0, .string ⟨#[]⟩, .string ⟨#[]⟩, .int .u64 0, .int .i64 0]
  op : BX W A4 24 cs
  ew : Ew eb w W
  ne : A2 ≠ eb ∧ A4 ≠ eb ∧ A4 ≠ A2
theorem RAt.step {w W W' : World} {eb A2 A4 : Nat} {s s' : ES} {cs : Array Value} (h : RAt w W eb A2 A4 s cs) (hr : ReadS W W' eb s') : RAt w W' eb A2 A4 s' cs :=
  ⟨hr.1, (hr.2.block A2 (lt_of_block h.res) h.ne.1).trans h.res, (hr.2.block A4 (lt_of_block h.op) h.ne.2.1).trans h.op, h.ew.trans hr.2, h.ne⟩
theorem RAt.under {w W W' : World} {eb A2 A4 : Nat} {s : ES} {cs : Array Value} (h : RAt w W eb A2 A4 s cs) (hb : Below W.heap.size W W') : RAt w W' eb A2 A4 s cs :=
  ⟨h.eye.under hb, h.res.below hb, h.op.below hb, h.ew.trans (ew_of_below hb), h.ne⟩

set_option maxHeartbeats 8000000 in
set_option maxRecDepth 100000 in
theorem opRead_any (eb : Nat) (s : ES) (w : World) (he : EyeS w eb s) :
    Calls Tryd.prog 20 #[.pointer (some ⟨eb, 0, none⟩)] w fun e w' => e = .returned (.tuple #[.agg (readF s).1.1.arr, .bool (readF s).1.2]) ∧ ReadS w w' eb (readF s).2 := by
  obtain ⟨R, hR⟩ : ∃ R, R = readF s := ⟨_, rfl⟩
  rw [← hR]
  unfold readF at hR
  have n2 := BX.new w 24 #[.int .i64 0, .string ⟨#[]⟩, .string ⟨#[]⟩, .int .u64 0, .int .i64 0]
  have hx1 := boxed_below w (.cells #[.int .i64 0, .string ⟨#[]⟩, .string ⟨#[]⟩, .int .u64 0, .int .i64 0] 24)
  obtain ⟨W1, hW1⟩ : ∃ W, W = w.alloc (.cells #[.int .i64 0, .string ⟨#[]⟩, .string ⟨#[]⟩, .int .u64 0, .int .i64 0] 24) := ⟨_, rfl⟩
  rw [← hW1] at n2 hx1
  have HPS := Lib.hid (parse_any eb s W1 (he.under hx1))
  have hfit := parseF_fit s
  have HLT := Lib.hid he.lt
  rcases hP : parseF s with ⟨⟨k, key, tx, v, lim⟩, s1⟩
  rw [hP] at hR HPS hfit
  simp only at hR hfit
  unfold OpV.arr at HPS
  unfold judged OpV.sound at hR
  simp only at hR HPS
  have h1 : tx.size ≤ 140737488355328 := by omega
  have h2 : key.size ≤ 140737488355328 := by omega
  have HC := Lib.hid (fun W => opCheck_any k key tx v lim W h1 h2)
  generalize opSoundB k key tx lim = sd at *
  have HN2 := Lib.hid n2
  have HX1 := Lib.hid hx1
  have HW1 := Lib.hid hW1
  have HR := Lib.hid hR
  clear n2 hx1 hW1 hR hP he hfit h1 h2
  go_enter Tryd.func20, Tryd.ntmps20
  go_upto_region 1 with fail
  rw [← HW1.out]
  clear HW1
  go_wp2_with fail
  refine HPS.out.mono ?_
  rintro e w2 ⟨rfl, hr2⟩
  have m3 := BX.new w2 24 #[.int .i64 k, .string key, .string tx, .int .u64 (v : Nat), .int .i64 lim]
  have hx3 := boxed_below w2 (.cells #[.int .i64 k, .string key, .string tx, .int .u64 (v : Nat), .int .i64 lim] 24)
  obtain ⟨W3, hW3⟩ : ∃ W, W = w2.alloc (.cells #[.int .i64 k, .string key, .string tx, .int .u64 (v : Nat), .int .i64 lim] 24) := ⟨_, rfl⟩
  rw [← hW3] at m3 hx3
  have HA3 : Hid (RAt w W3 eb w.heap.size w2.heap.size s1 #[.int .i64 k, .string key, .string tx, .int .u64 (v : Nat), .int .i64 lim]) := Lib.hid (by
    have hlt2 := lt_of_block HN2.out
    have hlt := HLT.out
    have hs2 := hr2.2.size
    exact ⟨hr2.1.under hx3, BX.below ((hr2.2.block _ hlt2 (by omega)).trans HN2.out) hx3, m3, ((ew_of_below HX1.out).trans hr2.2).trans (ew_of_below hx3), by omega, by omega, by omega⟩)
  have HW3 := Lib.hid hW3
  clear m3 hx3 hr2 hW3 HPS HN2 HX1
  go_upto_region 2 with fail
  rw [← HW3.out]
  clear HW3
  obtain ⟨g, hg⟩ : ∃ g, g = w2.heap.size := ⟨_, rfl⟩
  rw [← hg] at HA3 ⊢
  clear hg
  have c0 : W3.cell? ⟨g, 0, none⟩ = some (.int .i64 k) := HA3.out.op.cell 0 rfl
  have c1 : W3.cell? ⟨g, 1, none⟩ = some (.string key) := HA3.out.op.cell 1 rfl
  have c2 : W3.cell? ⟨g, 2, none⟩ = some (.string tx) := HA3.out.op.cell 2 rfl
  have c3 : W3.cell? ⟨g, 3, none⟩ = some (.int .u64 (v : Nat)) := HA3.out.op.cell 3 rfl
  have c4 : W3.cell? ⟨g, 4, none⟩ = some (.int .i64 lim) := HA3.out.op.cell 4 rfl
  go_wp2_with fail
  refine (HC.out _).mono ?_
  rintro e w4 ⟨rfl, hb4⟩
  have HA4 := Lib.hid (HA3.out.under hb4)
  clear hb4 HC c0 c1 c2 c3 c4
  cases sd with
  | false =>
    have HTN := Lib.hid (eyeTextNeg eb s1 w4 HA4.out.eye)
    obtain ⟨q, hq⟩ : ∃ q : Int, q = if s1.2 = 0 then 10 else s1.2 := ⟨_, rfl⟩
    have hq0 : q ≠ 0 := by
      rw [hq]
      split
      · decide
      · assumption
    rw [← hq] at HTN
    have HRR : Hid (R = ((opZ, false), ([], q))) := Lib.hid (by rw [HR.out]; simp only [Bool.false_eq_true, if_false, ← hq, if_neg hq0])
    have hqb : (q == 0) = false := by rw [beq_eq_false_iff_ne]; exact hq0
    clear hq hq0 HR
    go_wp2_with fail
    refine HTN.out.mono ?_
    rintro e w5 ⟨rfl, hr5⟩
    have HA5 := Lib.hid (HA4.out.step hr5)
    clear hr5
    go_wp2_with fail
    refine (fault_any eb q [] w5 HA5.out.eye.1).mono ?_
    rintro e w6 ⟨rfl, h6⟩
    rw [← h6]
    clear h6
    have r0 : w5.cell? ⟨w.heap.size, 0, none⟩ = some (.int .i64 0) := HA5.out.res.cell 0 rfl
    have y0 := HA5.out.res.frozen 0
    have r1 : w5.cell? ⟨w.heap.size, 1, none⟩ = some (.string ⟨#[]⟩) := HA5.out.res.cell 1 rfl
    have y1 := HA5.out.res.frozen 1
    have r2 : w5.cell? ⟨w.heap.size, 2, none⟩ = some (.string ⟨#[]⟩) := HA5.out.res.cell 2 rfl
    have y2 := HA5.out.res.frozen 2
    have r3 : w5.cell? ⟨w.heap.size, 3, none⟩ = some (.int .u64 0) := HA5.out.res.cell 3 rfl
    have y3 := HA5.out.res.frozen 3
    have r4 : w5.cell? ⟨w.heap.size, 4, none⟩ = some (.int .i64 0) := HA5.out.res.cell 4 rfl
    have y4 := HA5.out.res.frozen 4
    go_wp2
    refine bodyPost_ret (v := .tuple #[.agg #[.int .i64 0, .string ⟨#[]⟩, .string ⟨#[]⟩, .int .u64 0, .int .i64 0], .bool false]) (by simp [results, Tryd.results20, go_sem, *]) rfl ?_
    rw [HRR.out]
    exact ⟨rfl, readS_stored HA5.out.eye HA5.out.res HA5.out.ne.1 HA5.out.ew _ _ _ _ _⟩
  | true =>
    obtain ⟨l1, f1⟩ := s1
    by_cases hf : f1 = 0
    · have HRR : Hid (R = ((⟨k, key, tx, v, lim⟩, true), (l1, f1))) := Lib.hid (by rw [HR.out]; simp only [if_true, if_pos hf])
      subst hf
      clear HR
      go_wp2_with fail
      refine (fault_any eb 0 l1 w4 HA4.out.eye.1).mono ?_
      rintro e w6 ⟨rfl, h6⟩
      rw [← h6]
      clear h6
      have c0 : w4.cell? ⟨g, 0, none⟩ = some (.int .i64 k) := HA4.out.op.cell 0 rfl
      have c1 : w4.cell? ⟨g, 1, none⟩ = some (.string key) := HA4.out.op.cell 1 rfl
      have c2 : w4.cell? ⟨g, 2, none⟩ = some (.string tx) := HA4.out.op.cell 2 rfl
      have c3 : w4.cell? ⟨g, 3, none⟩ = some (.int .u64 (v : Nat)) := HA4.out.op.cell 3 rfl
      have c4 : w4.cell? ⟨g, 4, none⟩ = some (.int .i64 lim) := HA4.out.op.cell 4 rfl
      have r0 : w4.cell? ⟨w.heap.size, 0, none⟩ = some (.int .i64 0) := HA4.out.res.cell 0 rfl
      have y0 := HA4.out.res.frozen 0
      have r1 : w4.cell? ⟨w.heap.size, 1, none⟩ = some (.string ⟨#[]⟩) := HA4.out.res.cell 1 rfl
      have y1 := HA4.out.res.frozen 1
      have r2 : w4.cell? ⟨w.heap.size, 2, none⟩ = some (.string ⟨#[]⟩) := HA4.out.res.cell 2 rfl
      have y2 := HA4.out.res.frozen 2
      have r3 : w4.cell? ⟨w.heap.size, 3, none⟩ = some (.int .u64 0) := HA4.out.res.cell 3 rfl
      have y3 := HA4.out.res.frozen 3
      have r4 : w4.cell? ⟨w.heap.size, 4, none⟩ = some (.int .i64 0) := HA4.out.res.cell 4 rfl
      have y4 := HA4.out.res.frozen 4
      have hne := HA4.out.ne.2.2
      go_wp2
      refine bodyPost_ret (v := .tuple #[.agg #[.int .i64 k, .string key, .string tx, .int .u64 (v : Nat), .int .i64 lim], .bool true]) (by simp [results, Tryd.results20, go_sem, *]) rfl ?_
      rw [HRR.out]
      exact ⟨rfl, readS_stored HA4.out.eye HA4.out.res HA4.out.ne.1 HA4.out.ew _ _ _ _ _⟩
    · have HRR : Hid (R = ((opZ, false), (l1, f1))) := Lib.hid (by rw [HR.out]; simp only [if_true, if_neg hf])
      have hqb : (f1 == 0) = false := by rw [beq_eq_false_iff_ne]; exact hf
      clear hf HR
      go_wp2_with fail
      refine (fault_any eb f1 l1 w4 HA4.out.eye.1).mono ?_
      rintro e w6 ⟨rfl, h6⟩
      rw [← h6]
      clear h6
      have r0 : w4.cell? ⟨w.heap.size, 0, none⟩ = some (.int .i64 0) := HA4.out.res.cell 0 rfl
      have y0 := HA4.out.res.frozen 0
      have r1 : w4.cell? ⟨w.heap.size, 1, none⟩ = some (.string ⟨#[]⟩) := HA4.out.res.cell 1 rfl
      have y1 := HA4.out.res.frozen 1
      have r2 : w4.cell? ⟨w.heap.size, 2, none⟩ = some (.string ⟨#[]⟩) := HA4.out.res.cell 2 rfl
      have y2 := HA4.out.res.frozen 2
      have r3 : w4.cell? ⟨w.heap.size, 3, none⟩ = some (.int .u64 0) := HA4.out.res.cell 3 rfl
      have y3 := HA4.out.res.frozen 3
      have r4 : w4.cell? ⟨w.heap.size, 4, none⟩ = some (.int .i64 0) := HA4.out.res.cell 4 rfl
      have y4 := HA4.out.res.frozen 4
      go_wp2
      refine bodyPost_ret (v := .tuple #[.agg #[.int .i64 0, .string ⟨#[]⟩, .string ⟨#[]⟩, .int .u64 0, .int .i64 0], .bool false]) (by simp [results, Tryd.results20, go_sem, *]) rfl ?_
      rw [HRR.out]
      exact ⟨rfl, readS_stored HA4.out.eye HA4.out.res HA4.out.ne.1 HA4.out.ew _ _ _ _ _⟩
end Go.Proofs.YtmkglaghnjnooaaDoor
